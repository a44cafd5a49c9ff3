package buffer_test

import (
	"fmt"
	"math"
	"testing"

	"gleaning/api"
	"gleaning/buffer"
)

// work is a span of a trace.
func work(t, id uint64) api.Span {
	return api.Span{Trace: api.Trace{Lo: t}, Id: id, Attrs: []api.Attr{{Key: "k"}}}
}

// of is an episode of a trace with spans of these Ids.
func of(t uint64, first, last int, sure bool, ids ...uint64) api.Episode {
	e := api.Episode{Trace: api.Trace{Lo: t}, First: first, Last: last, Sure: sure}
	for _, id := range ids {
		e.Spans = append(e.Spans, work(t, id))
	}
	return e
}

// same holds episodes against episodes.
func same(t *testing.T, what string, got []api.Episode, want ...api.Episode) {
	t.Helper()
	if g, w := fmt.Sprint(got), fmt.Sprint(want); g != w {
		t.Errorf("%s: %s, not %s", what, g, w)
	}
}

func TestCountP1601(t *testing.T) {
	if buffer.Count(nil) != 0 || buffer.Count([]api.Episode{of(1, 0, 0, false, 1, 2), of(2, 0, 0, false), of(1, 0, 0, false, 2)}) != 3 {
		t.Error("not all that wait")
	}
}

func TestPutP1601(t *testing.T) {
	l := buffer.Put(nil, work(1, 1), 3, false)
	same(t, "a new one", l, of(1, 3, 3, false, 1))
	same(t, "a new one that is sure", buffer.Put(l, work(2, 1), -4, true), l[0], of(2, -4, -4, true, 1))
	l = buffer.Put(l, work(1, 2), 5, false)
	same(t, "another span", l, of(1, 3, 5, false, 1, 2))
	same(t, "sure now", buffer.Put(l, work(1, 3), 6, true), of(1, 3, 6, true, 1, 2, 3))
	same(t, "sure now, the span is there", buffer.Put(l, work(1, 2), 6, true), of(1, 3, 6, true, 1, 2))
	same(t, "not sure now", buffer.Put([]api.Episode{of(1, 3, 3, true, 1)}, work(1, 2), 4, false), of(1, 3, 4, true, 1, 2))
	same(t, "the span is there", buffer.Put(l, work(1, 2), 6, false), of(1, 3, 6, false, 1, 2))
	two := []api.Episode{of(9, 0, 0, false, 1), of(1, 1, 1, false, 1), of(1, 2, 2, false, 2)}
	same(t, "to the first of its trace", buffer.Put(two, work(1, 2), 7, false), two[0], of(1, 1, 7, false, 1, 2), two[2])
	same(t, "behind the others", buffer.Put(two, work(0, 2), 7, false), two[0], two[1], two[2], of(0, 7, 7, false, 2))
}

func TestOldestP1601(t *testing.T) {
	if rest, e, ok := buffer.Oldest(nil); len(rest) != 0 || fmt.Sprint(e) != fmt.Sprint(api.Episode{}) || ok {
		t.Error("of nothing")
	}
	a, b, c := of(1, 5, 5, false, 1), of(2, 3, 9, true, 1), of(3, 3, 3, false, 1, 2)
	for i, x := range []struct{ l, rest []api.Episode }{
		{[]api.Episode{b}, nil},
		{[]api.Episode{a, b, c}, []api.Episode{a, c}},
		{[]api.Episode{b, a}, []api.Episode{a}},
		{[]api.Episode{a, a, b}, []api.Episode{a, a}},
	} {
		rest, e, ok := buffer.Oldest(x.l)
		same(t, fmt.Sprint(i), rest, x.rest...)
		same(t, fmt.Sprint(i), []api.Episode{e}, b)
		if !ok {
			t.Errorf("%d: there is one", i)
		}
	}
	low := of(4, math.MinInt, 0, false, 1)
	rest, e, _ := buffer.Oldest([]api.Episode{a, low})
	same(t, "below 0", append(rest, e), a, low)
}

func TestCloseP1601(t *testing.T) {
	l := []api.Episode{of(1, 0, 9, false, 1), of(2, 5, 6, true, 1), of(3, 8, 8, false, 1), of(4, 9, 10, false, 1)}
	cases := []struct {
		now, idle, age int
		gone           []int
	}{
		{10, 100, 100, nil},
		{10, 4, 100, []int{1}},
		{10, 2, 100, []int{1, 2}},
		{10, 100, 10, []int{0}},
		{10, 4, 10, []int{0, 1}},
		{10, 5, 11, nil},
		{10, 0, 100, []int{0, 1, 2, 3}},
		{10, 100, 0, []int{0, 1, 2, 3}},
		{9, 0, 100, []int{0, 1, 2}},
		{0, 1, 1, nil},
		{0, -8, 1, []int{1, 2}},
		{math.MaxInt, math.MaxInt, math.MaxInt, []int{0}},
	}
	for _, c := range cases {
		stay, gone := []api.Episode(nil), []api.Episode(nil)
		at := 0
		for i, e := range l {
			if at < len(c.gone) && c.gone[at] == i {
				gone = append(gone, e)
				at++
			} else {
				stay = append(stay, e)
			}
		}
		gotStay, gotGone := buffer.Close(l, c.now, c.idle, c.age)
		what := fmt.Sprint(c.now, c.idle, c.age)
		same(t, what+" stay", gotStay, stay...)
		same(t, what+" go", gotGone, gone...)
	}
}

func TestCloseAtTheGreatestP1601(t *testing.T) {
	low, high := of(1, math.MinInt, math.MinInt, false, 1), of(2, math.MaxInt, math.MaxInt, false, 1)
	stay, gone := buffer.Close([]api.Episode{low, high}, math.MaxInt, math.MaxInt, math.MaxInt)
	same(t, "the greatest int goes", gone, low)
	same(t, "none stays", stay, high)
	stay, gone = buffer.Close([]api.Episode{low, high}, math.MinInt, math.MinInt, math.MaxInt)
	same(t, "the least int goes", gone, low, high)
	same(t, "none stays", stay)
	stay, gone = buffer.Close([]api.Episode{high}, math.MinInt, math.MinInt+1, math.MinInt+1)
	same(t, "above the least int", gone)
	same(t, "it stays", stay, high)
}

func TestNewMemoryP1602(t *testing.T) {
	l := make([]api.Episode, 2, 9)
	l[0], l[1] = of(1, 1, 1, false, 1), of(2, 2, 2, false, 1)
	s := work(1, 7)
	before := fmt.Sprint(l[:9], s)
	spoil := func(l ...api.Episode) {
		for _, e := range l {
			for i := range e.Spans {
				clear(e.Spans[i].Attrs)
			}
			clear(e.Spans[:cap(e.Spans)])
		}
		clear(l[:cap(l)])
	}
	spoil(buffer.Put(l, s, 9, true)...)
	spoil(buffer.Put(l, work(3, 1), 9, true)...)
	rest, e, _ := buffer.Oldest(l)
	spoil(e)
	spoil(rest...)
	stay, gone := buffer.Close(l, 4, 3, 100)
	spoil(stay...)
	spoil(gone...)
	if fmt.Sprint(l[:9], s) != before {
		t.Error("memory is shared")
	}
}
