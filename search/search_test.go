package search_test

import (
	"fmt"
	"math"
	"slices"
	"testing"

	"gleaning/api"
	"gleaning/sample"
	"gleaning/search"
)

// of is an episode of spans of a trace.
func of(hi, lo uint64, l ...api.Span) api.Episode {
	return api.Episode{Trace: api.Trace{Hi: hi, Lo: lo}, Spans: l}
}

// named is a span of a service.
func named(service string) api.Span {
	return api.Span{Service: service}
}

func TestMatchP3201(t *testing.T) {
	s := api.Span{Service: "s", Op: "o", Dur: 100, Err: true, Attrs: []api.Attr{{Key: "k", Value: "v"}, {Key: "e", Value: ""}, {Key: "", Value: "x"}}}
	plain := api.Span{Service: "s", Op: "o", Dur: -5}
	for i, x := range []struct {
		q           api.Query
		full, plain bool
	}{
		{api.Query{}, true, true},
		{api.Query{Service: "s"}, true, true}, {api.Query{Service: "o"}, false, false}, {api.Query{Service: "ss"}, false, false},
		{api.Query{Op: "o"}, true, true}, {api.Query{Op: "s"}, false, false},
		{api.Query{Service: "s", Op: "o"}, true, true}, {api.Query{Service: "s", Op: "p"}, false, false},
		{api.Query{Key: "k", Value: "v"}, true, false}, {api.Query{Key: "k"}, false, false}, {api.Query{Value: "v"}, false, false},
		{api.Query{Key: "k", Value: "w"}, false, false}, {api.Query{Key: "e"}, true, false}, {api.Query{Value: "x"}, true, false}, {api.Query{Key: "e", Value: "v"}, false, false},
		{api.Query{Dur: 100}, true, false}, {api.Query{Dur: 101}, false, false}, {api.Query{Dur: 1}, true, false},
		{api.Query{Dur: -5}, true, true}, {api.Query{Dur: -4}, true, false}, {api.Query{Dur: math.MinInt}, true, true},
		{api.Query{Err: true}, true, false},
		{api.Query{Service: "s", Op: "o", Key: "k", Value: "v", Dur: 50, Err: true}, true, false},
		{api.Query{Service: "s", Op: "o", Key: "k", Value: "v", Dur: 150, Err: true}, false, false},
	} {
		if search.Match(x.q, s) != x.full || search.Match(x.q, plain) != x.plain {
			t.Errorf("%d: %v", i, x.q)
		}
	}
	if !search.Match(api.Query{}, api.Span{}) {
		t.Error("nothing is asked")
	}
}

func TestFindP3201(t *testing.T) {
	l := []api.Block{
		{Episodes: []api.Episode{of(2, 0, named("a"), named("b")), of(1, 9, named("b")), of(1, 9, named("a")), of(0, 5)}},
		{},
		{Episodes: []api.Episode{of(math.MaxUint64, 0, named("a")), of(1, 10, named("c"), named("a")), of(1, 9, named("a")), of(2, 0, named("c"))}},
	}
	trace := func(hi, lo uint64) api.Trace { return api.Trace{Hi: hi, Lo: lo} }
	for service, want := range map[string][]api.Trace{
		"a": {trace(1, 9), trace(1, 10), trace(2, 0), trace(math.MaxUint64, 0)},
		"b": {trace(1, 9), trace(2, 0)},
		"c": {trace(1, 10), trace(2, 0)},
		"d": nil,
		"":  {trace(1, 9), trace(1, 10), trace(2, 0), trace(math.MaxUint64, 0)},
	} {
		q := api.Query{Service: service}
		for n, many := range map[int]int{0: 0, 1: 1, 2: 2, 3: 3, 4: 4, 99: 99, math.MaxInt: 99, -1: 0, math.MinInt: 0} {
			if got := search.Find(l, q, n); !slices.Equal(got, want[:min(many, len(want))]) {
				t.Errorf("%q %d: %v", service, n, got)
			}
		}
		if got := search.Count(l, q); got != len(want) {
			t.Errorf("%q: %d", service, got)
		}
	}
	if len(search.Find(nil, api.Query{}, 9)) != 0 || search.Count(nil, api.Query{}) != 0 {
		t.Error("in none")
	}
	one := []api.Block{{Episodes: []api.Episode{of(1, 1, named("a"), api.Span{Service: "b", Err: true})}}}
	if search.Count(one, api.Query{Service: "a", Err: true}) != 0 || search.Count(one, api.Query{Service: "b", Err: true}) != 1 {
		t.Error("all is asked of one span")
	}
}

func TestNewMemoryP3202(t *testing.T) {
	c := sample.Chance(32)
	l := []api.Block{{Episodes: c.Episodes(9, 5)}, {Episodes: c.Episodes(9, 5)}}
	before := fmt.Sprint(l)
	one, two := search.Find(l, api.Query{}, 9), search.Find(l, api.Query{}, 9)
	want := slices.Clone(two)
	clear(one)
	if !slices.Equal(two, want) || fmt.Sprint(l) != before {
		t.Error("memory is shared")
	}
}
