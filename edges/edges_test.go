package edges_test

import (
	"fmt"
	"math"
	"slices"
	"testing"

	"gleaning/api"
	"gleaning/edges"
)

// call is a span of a service, called by another span.
func call(service string, id, parent uint64) api.Span {
	return api.Span{Service: service, Op: "o", Id: id, Parent: parent}
}

// failed is the span with an error.
func failed(s api.Span) api.Span {
	s.Err = true
	return s
}

// of is the span of another trace.
func of(n uint64, s api.Span) api.Span {
	s.Trace.Lo = n
	return s
}

// edge is one with its counts.
func edge(from, to string, count, errs int) api.Edge {
	return api.Edge{From: from, To: to, Count: count, Errs: errs}
}

// same holds edges against edges.
func same(t *testing.T, what string, got []api.Edge, want ...api.Edge) {
	t.Helper()
	if !slices.Equal(got, want) {
		t.Errorf("%s: %v, not %v", what, got, want)
	}
}

func TestAddP1101(t *testing.T) {
	same(t, "nothing", edges.Add(nil, nil, 9))
	a, b, c := call("a", 1, 0), call("b", 2, 1), call("c", 3, 2)
	l := edges.Add(nil, []api.Span{a, b, c}, 9)
	same(t, "a chain", l, edge("a", "b", 1, 0), edge("b", "c", 1, 0))
	l = edges.Add(l, []api.Span{failed(c), b, failed(b), a}, 9)
	same(t, "parents behind their kids", l, edge("a", "b", 3, 1), edge("b", "c", 2, 1))
	l = edges.Add(l, []api.Span{a, call("a", 2, 1), call("Z", 3, 2), call("z", 4, 2), call("ab", 5, 1)}, 9)
	same(t, "in order", l, edge("a", "Z", 1, 0), edge("a", "ab", 1, 0), edge("a", "b", 3, 1), edge("a", "z", 1, 0), edge("b", "c", 2, 1))
}

func TestAddOfNoCallsP1101(t *testing.T) {
	a, b := call("a", 1, 0), call("b", 2, 1)
	wrong := b
	wrong.Op = ""
	torn := a
	torn.Start = -1
	for i, batch := range [][]api.Span{
		{b},
		{a},
		{a, call("a", 2, 1)},
		{a, of(7, b)},
		{of(7, a), b},
		{a, wrong},
		{torn, b},
		{a, call("b", 2, 5)},
		{call("a", 1, 1)},
		{call("a", 1, 0), call("a", 1, 1)},
	} {
		same(t, fmt.Sprint(i), edges.Add(nil, batch, 9))
	}
	same(t, "of two traces", edges.Add(nil, []api.Span{a, of(7, a), of(7, b)}, 9), edge("a", "b", 1, 0))
	same(t, "a parent of no Id", edges.Add(nil, []api.Span{call("a", 0, 9), call("b", 1, 0)}, 9), edge("a", "b", 1, 0))
}

func TestTheFirstParentCountsP1101(t *testing.T) {
	a, other, b := call("a", 1, 0), call("c", 1, 0), call("b", 2, 1)
	same(t, "the first", edges.Add(nil, []api.Span{a, other, b}, 9), edge("a", "b", 1, 0))
	same(t, "the other one first", edges.Add(nil, []api.Span{b, other, a}, 9), edge("c", "b", 1, 0))
	same(t, "the first has its service", edges.Add(nil, []api.Span{call("b", 1, 0), a, b}, 9))
	torn := a
	torn.Dur = -1
	same(t, "the first that is right", edges.Add(nil, []api.Span{torn, other, b}, 9), edge("c", "b", 1, 0))
	same(t, "a first one that is its own parent", edges.Add(nil, []api.Span{call("a", 1, 1), call("b", 1, 1)}, 9), edge("a", "b", 1, 0))
}

func TestMostP1101(t *testing.T) {
	a, b := call("a", 1, 0), failed(call("b", 2, 1))
	old := []api.Edge{edge("a", "a", 99, -99), edge("a", "b", 5, -4), edge("c", "c", -5, 99)}
	for _, c := range []struct{ most, count, errs int }{
		{9, 6, 1}, {6, 6, 1}, {5, 5, 1}, {1, 1, 1}, {0, 0, 0}, {-1, 0, 0}, {math.MinInt, 0, 0}, {math.MaxInt, 6, 1},
	} {
		same(t, fmt.Sprint("most ", c.most), edges.Add(old, []api.Span{a, b}, c.most), old[0], edge("a", "b", c.count, c.errs), old[2])
	}
	top := edge("a", "b", math.MaxInt, math.MaxInt)
	same(t, "at the greatest", edges.Add([]api.Edge{top}, []api.Span{a, b}, math.MaxInt), top)
	same(t, "below 0", edges.Add([]api.Edge{edge("a", "b", math.MinInt, math.MinInt)}, []api.Span{a, b}, 9), edge("a", "b", 1, 1))
	b.Err = false
	same(t, "no error", edges.Add([]api.Edge{edge("a", "b", 3, -7)}, []api.Span{a, b}, 9), edge("a", "b", 4, 0))
	same(t, "no error, above most", edges.Add([]api.Edge{edge("a", "b", 3, 7)}, []api.Span{a, b}, 2), edge("a", "b", 2, 2))
	same(t, "a new one, and none may be", edges.Add(nil, []api.Span{a, b}, 0), edge("a", "b", 0, 0))
}

func TestNewMemoryP1102(t *testing.T) {
	l := make([]api.Edge, 2, 9)
	l[0], l[1] = edge("a", "b", 1, 1), edge("c", "d", 1, 1)
	batch := []api.Span{call("a", 1, 0), call("b", 2, 1), call("bb", 3, 1)}
	before := fmt.Sprint(l[:9], batch)
	first := edges.Add(l, batch, 9)
	again := edges.Add(l, batch, 9)
	clear(first)
	same(t, "again", again, edge("a", "b", 2, 1), edge("a", "bb", 1, 0), edge("c", "d", 1, 1))
	clear(edges.Add(l, nil, 9))
	if fmt.Sprint(l[:9], batch) != before {
		t.Error("memory is shared")
	}
}
