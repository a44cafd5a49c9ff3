package query_test

import (
	"fmt"
	"testing"

	"gleaning/api"
	"gleaning/model"
	"gleaning/query"
	"gleaning/sample"
)

// work is a span of a trace, that took so long.
func work(trace, id uint64, dur int) api.Span {
	return api.Span{Trace: api.Trace{Lo: trace}, Id: id, Dur: dur, Service: "s", Op: "o", Attrs: []api.Attr{{Key: "k"}}}
}

// of is an episode of spans of a trace.
func of(trace uint64, l ...api.Span) api.Episode {
	return api.Episode{Trace: api.Trace{Lo: trace}, Spans: l}
}

// full is a state that has all.
func full() api.State {
	return api.State{
		Open:    []api.Episode{of(1, work(1, 90, 0))},
		Pending: []api.Episode{of(1, work(1, 91, 0))},
		Rows:    []api.Row{{Level: 0, Window: 1, Service: "s", Op: "o"}, {Level: 0, Window: 2, Service: "s", Op: "p"}, {Level: 0, Window: 3, Service: "s", Op: "o"}, {Level: 1, Service: "s", Op: "o"}},
		Edges:   []api.Edge{{From: "b", To: "c", Count: 1}, {From: "a", To: "b", Count: 2}},
		Slots:   []api.Exemplar{{Service: "s", Op: "o", Id: 1}, {Service: "s", Op: "p", Id: 2}, {Service: "s", Op: "o", Id: 3}},
		Blocks: []api.Block{
			{Number: 3, Episodes: []api.Episode{of(1, work(1, 5, 1), work(1, 4, 2)), of(2, work(2, 5, 3))}},
			{Number: 1},
			{Number: 2, Episodes: []api.Episode{of(1, work(1, 6, 4), work(1, 5, 5)), of(1, work(1, 4, 6), work(1, 1, 7)), of(3)}},
		},
	}
}

// same holds a thing against another one.
func same(t *testing.T, what string, got, want any) {
	t.Helper()
	if g, w := fmt.Sprint(got), fmt.Sprint(want); g != w {
		t.Errorf("%s: %s, not %s", what, g, w)
	}
}

func TestGetP2301(t *testing.T) {
	for trace, want := range map[uint64][]api.Span{
		1: {work(1, 5, 1), work(1, 4, 2), work(1, 6, 4), work(1, 1, 7)},
		2: {work(2, 5, 3)},
		3: nil,
	} {
		got, err := query.Get(full(), api.Trace{Lo: trace})
		same(t, fmt.Sprint(trace), got, want)
		if err != api.OK {
			t.Errorf("%d: %d", trace, err)
		}
	}
}

func TestGetOfNoEpisodeP2301(t *testing.T) {
	wait := full()
	wait.Blocks = nil
	for _, c := range []struct {
		what  string
		state api.State
		trace api.Trace
	}{
		{"a zero state", api.State{}, api.Trace{}},
		{"blocks that have none", api.State{Blocks: []api.Block{{}, {}}}, api.Trace{}},
		{"another Lo", full(), api.Trace{Lo: 4}},
		{"another Hi", full(), api.Trace{Hi: 1, Lo: 1}},
		{"episodes that are in no block", wait, api.Trace{Lo: 1}},
	} {
		if l, err := query.Get(c.state, c.trace); err != api.ErrNone || len(l) != 0 {
			t.Errorf("%s: %v %d", c.what, l, err)
		}
	}
}

func TestGetOfEpisodesWithoutSpansP2301(t *testing.T) {
	zero := api.State{Blocks: []api.Block{{Episodes: []api.Episode{{}}}}}
	if l, err := query.Get(zero, api.Trace{}); err != api.OK || len(l) != 0 {
		t.Errorf("of the zero trace: %v %d", l, err)
	}
	if l, err := query.Get(zero, api.Trace{Lo: 1}); err != api.ErrNone || len(l) != 0 {
		t.Errorf("of another one: %v %d", l, err)
	}
	two := api.State{Blocks: []api.Block{{Episodes: []api.Episode{of(1)}}, {Episodes: []api.Episode{of(1, work(1, 2, 3))}}}}
	l, err := query.Get(two, api.Trace{Lo: 1})
	same(t, "one without spans, one with a span", l, []api.Span{work(1, 2, 3)})
	if err != api.OK {
		t.Error(err)
	}
}

func TestRowsP2301(t *testing.T) {
	s := full()
	same(t, "rows", query.Rows(s, "s", "o", 0), []api.Row{s.Rows[0], s.Rows[2]})
	same(t, "rows of level 1", query.Rows(s, "s", "o", 1), []api.Row{s.Rows[3]})
	same(t, "no rows", query.Rows(s, "s", "o", 2), []api.Row{})
}

func TestEdgesP2301(t *testing.T) {
	same(t, "edges", query.Edges(full()), full().Edges)
	same(t, "no edges", query.Edges(api.State{}), []api.Edge{})
}

func TestSlotsP2301(t *testing.T) {
	s := full()
	same(t, "exemplars", query.Slots(s, "s", "o"), []api.Exemplar{s.Slots[0], s.Slots[2]})
	same(t, "no exemplars", query.Slots(s, "", "o"), []api.Exemplar{})
}

func TestWhoIsPointedToIsFoundP2301(t *testing.T) {
	c := sample.Chance(23)
	cfg := c.Config()
	s := model.First(cfg)
	for range 200 {
		if next, err := model.Step(cfg, s, c.Op()); err == api.OK {
			s = next
		}
		for _, e := range s.Slots {
			l, err := query.Get(s, e.Trace)
			found := false
			for _, one := range l {
				found = found || one.Id == e.Id
			}
			if err != api.OK || !found {
				t.Fatalf("%v is not found", e)
			}
		}
	}
}

func TestNewMemoryP2302(t *testing.T) {
	s := full()
	before := fmt.Sprint(s)
	l, _ := query.Get(s, api.Trace{Lo: 1})
	for i := range l {
		clear(l[i].Attrs)
	}
	clear(l)
	clear(query.Rows(s, "s", "o", 0))
	clear(query.Edges(s))
	clear(query.Slots(s, "s", "o"))
	same(t, "what was handed in", s, before)
}
