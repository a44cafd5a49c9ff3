package episode_test

import (
	"fmt"
	"math"
	"testing"

	"gleaning/api"
	"gleaning/episode"
)

// trace is one of the traces.
func trace(n uint64) api.Trace {
	return api.Trace{Hi: 7, Lo: n}
}

// work is a span of a trace, that took so long.
func work(t, id uint64, dur int) api.Span {
	return api.Span{Trace: trace(t), Id: id, Dur: dur, Attrs: []api.Attr{{Key: "k", Value: "v"}}}
}

// of is an episode of a trace.
func of(t uint64, l ...api.Span) api.Episode {
	return api.Episode{Trace: trace(t), First: 3, Last: 5, Sure: true, Spans: l}
}

// same holds a thing against another one.
func same(t *testing.T, what string, got, want any) {
	t.Helper()
	if g, w := fmt.Sprint(got), fmt.Sprint(want); g != w {
		t.Errorf("%s: %s, not %s", what, g, w)
	}
}

func TestAddP1501(t *testing.T) {
	e := of(1, work(1, 4, 1), work(1, 2, 2))
	last := func(e api.Episode, now int) api.Episode {
		e.Last = now
		return e
	}
	for i, c := range []struct {
		s    api.Span
		now  int
		want api.Episode
		ok   bool
	}{
		{work(2, 9, 3), 8, e, false},
		{api.Span{Id: 9}, 8, e, false},
		{work(1, 4, 3), 8, last(e, 8), false},
		{work(1, 2, 2), math.MinInt, last(e, math.MinInt), false},
		{work(1, 9, 3), 8, last(of(1, work(1, 4, 1), work(1, 2, 2), work(1, 9, 3)), 8), true},
		{work(1, 0, 3), -2, last(of(1, work(1, 4, 1), work(1, 2, 2), work(1, 0, 3)), -2), true},
	} {
		got, ok := episode.Add(e, c.s, c.now)
		same(t, fmt.Sprint(i), got, c.want)
		same(t, fmt.Sprint(i), ok, c.ok)
	}
	got, ok := episode.Add(api.Episode{}, api.Span{}, 3)
	same(t, "to a zero one", got, api.Episode{Last: 3, Spans: []api.Span{{}}})
	same(t, "to a zero one", ok, true)
}

func TestSpansP1501(t *testing.T) {
	l := []api.Episode{
		of(1, work(1, 4, 1), work(1, 2, 2)),
		of(2, work(2, 4, 3)),
		of(1),
		of(1, work(1, 2, 4), work(1, 3, 5), work(1, 3, 6)),
		of(3, work(1, 8, 8)),
		of(1, work(1, 4, 7), work(1, 1, 8)),
	}
	same(t, "of three", episode.Spans(l, trace(1)), []api.Span{work(1, 4, 1), work(1, 2, 2), work(1, 3, 5), work(1, 1, 8)})
	same(t, "of one", episode.Spans(l, trace(2)), []api.Span{work(2, 4, 3)})
	same(t, "of none", episode.Spans(l, trace(4)), []api.Span{})
	same(t, "another Hi", episode.Spans(l, api.Trace{Lo: 1}), []api.Span{})
	same(t, "of nothing", episode.Spans(nil, trace(1)), []api.Span{})
}

func TestNewMemoryP1502(t *testing.T) {
	e := of(1, append(make([]api.Span, 0, 9), work(1, 4, 1))...)
	s := work(1, 9, 2)
	before := fmt.Sprint(e, s, e.Spans[:2])
	spoil := func(l []api.Span) {
		for i := range l {
			clear(l[i].Attrs)
			l[i].Id = 99
		}
	}
	for i, add := range []api.Span{s, work(1, 4, 1), work(2, 1, 1)} {
		got, _ := episode.Add(e, add, 9)
		spoil(got.Spans)
		if fmt.Sprint(e, s, e.Spans[:2]) != before {
			t.Fatalf("%d: memory is shared", i)
		}
	}
	one, _ := episode.Add(e, s, 9)
	two, _ := episode.Add(e, s, 9)
	spoil(one.Spans)
	spoil(episode.Spans([]api.Episode{e}, trace(1)))
	spoil(episode.Copies([]api.Episode{e})[0].Spans)
	same(t, "two answers", two.Spans, []api.Span{e.Spans[0], s})
	same(t, "what was handed in", fmt.Sprint(e, s, e.Spans[:2]), before)
}
