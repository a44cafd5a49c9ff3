package model_test

import (
	"fmt"
	"math"
	"testing"

	"gleaning/api"
	"gleaning/block"
	"gleaning/buffer"
	"gleaning/model"
	"gleaning/state"
)

// config is one that lets all be for a while.
func config() api.Config {
	return api.Config{Idle: 2, Age: 5, Most: 10, Memo: 4, Cap: 100, Keep: 100, Budget: 1 << 20, Horizon: [3]int{1 << 30, 1 << 30, 1 << 30}}
}

// work is a span of a trace; its operation takes no time.
func work(trace, id uint64) api.Span {
	return api.Span{Trace: api.Trace{Lo: trace}, Id: id, Service: "s", Op: "o"}
}

// failed is the span with an error.
func failed(s api.Span) api.Span {
	s.Err = true
	return s
}

// ingest, tick, policy and compact are the operations.
func ingest(l ...api.Span) api.Op   { return api.Op{Kind: api.OIngest, Spans: l} }
func tick(sec int) api.Op           { return api.Op{Kind: api.OTick, N: sec} }
func policy(r api.Rule) api.Op      { return api.Op{Kind: api.OPolicy, Policy: r} }
func kind(kind int, n int) api.Rule { return api.Rule{Kind: kind, N: n} }

var compact = api.Op{Kind: api.OCompact}

// play steps through operations, from First on.
func play(t *testing.T, c api.Config, l ...api.Op) api.State {
	t.Helper()
	return on(t, c, model.First(c), l...)
}

// on steps on from a state.
func on(t *testing.T, c api.Config, s api.State, l ...api.Op) api.State {
	t.Helper()
	for i, o := range l {
		next, err := model.Step(c, s, o)
		if err != api.OK {
			t.Fatalf("operation %d: %d", i, err)
		}
		s = next
	}
	return s
}

// same holds a thing against another one.
func same(t *testing.T, what string, got, want any) {
	t.Helper()
	if g, w := fmt.Sprint(got), fmt.Sprint(want); g != w {
		t.Errorf("%s: %s, not %s", what, g, w)
	}
}

func TestRightP2201(t *testing.T) {
	const most = 1 << 30
	turns := []struct {
		right bool
		turn  func(c *api.Config)
	}{
		{true, func(c *api.Config) {}},
		{true, func(c *api.Config) { *c = api.Config{Idle: 1, Age: 1, Most: 1, Cap: 1} }},
		{true, func(c *api.Config) {
			const last = api.MaxStart
			*c = api.Config{Idle: most, Age: most, Most: most, Memo: 1000, Cap: most, Keep: most, Budget: most, Horizon: [3]int{last, last, last}}
		}},
		{false, func(c *api.Config) { *c = api.Config{} }},
		{false, func(c *api.Config) { c.Idle = 0 }},
		{false, func(c *api.Config) { c.Idle = most + 1 }},
		{false, func(c *api.Config) { c.Age = 0 }},
		{false, func(c *api.Config) { c.Age = most + 1 }},
		{false, func(c *api.Config) { c.Most = 0 }},
		{false, func(c *api.Config) { c.Most = most + 1 }},
		{false, func(c *api.Config) { c.Memo = -1 }},
		{false, func(c *api.Config) { c.Memo = 1001 }},
		{false, func(c *api.Config) { c.Cap = 0 }},
		{false, func(c *api.Config) { c.Cap = most + 1 }},
		{false, func(c *api.Config) { c.Keep = -1 }},
		{false, func(c *api.Config) { c.Keep = most + 1 }},
		{false, func(c *api.Config) { c.Budget = -1 }},
		{false, func(c *api.Config) { c.Budget = most + 1 }},
		{false, func(c *api.Config) { c.Horizon[0] = -1 }},
		{false, func(c *api.Config) { c.Horizon[1] = api.MaxStart + 1 }},
		{false, func(c *api.Config) { c.Horizon[2] = math.MinInt }},
	}
	for i, x := range turns {
		c := config()
		x.turn(&c)
		if model.Right(c) != x.right {
			t.Errorf("%d: %v", i, !x.right)
		}
		want := api.State{}
		if x.right {
			want.Policy.Kind = api.RAll
		}
		if got := model.First(c); !state.Same(got, want) {
			t.Errorf("%d: First: %v", i, got)
		}
		if _, err := model.Step(c, api.State{Policy: kind(api.RAll, 0)}, tick(0)); (err == api.OK) != x.right {
			t.Errorf("%d: Step: %d", i, err)
		}
	}
}

func TestStepRefusesP2202(t *testing.T) {
	c := config()
	first := model.First(c)
	last := first
	last.Now = api.MaxEpochs
	ill := first
	ill.Sec = -1
	many := make([]api.Span, 51)
	for i := range many {
		many[i] = work(1, uint64(i))
	}
	wrong := work(1, 2)
	wrong.Op = ""
	cases := []struct {
		s    api.State
		o    api.Op
		want api.Errno
	}{
		{api.State{}, tick(0), api.ErrArg}, {ill, tick(0), api.ErrArg}, {ill, compact, api.ErrArg},
		{first, api.Op{}, api.ErrArg}, {first, api.Op{Kind: 5}, api.ErrArg}, {first, api.Op{Kind: -1}, api.ErrArg},
		{first, ingest(), api.ErrArg}, {first, ingest(many...), api.ErrArg}, {first, ingest(many[:50]...), api.OK},
		{first, ingest(work(1, 1), wrong), api.ErrArg},
		{first, tick(-1), api.ErrArg}, {first, tick(api.MaxStart + 1), api.ErrArg}, {first, tick(api.MaxStart), api.OK},
		{last, tick(0), api.ErrArg}, {last, ingest(work(1, 1)), api.OK},
		{first, policy(api.Rule{}), api.ErrArg}, {first, policy(kind(api.RErr, 1)), api.ErrArg}, {first, policy(kind(api.RErr, 0)), api.OK},
		{first, compact, api.ErrNone},
	}
	for i, x := range cases {
		got, err := model.Step(c, x.s, x.o)
		if err != x.want || err != api.OK && !state.Same(got, api.State{}) {
			t.Errorf("%d: %d, not %d: %v", i, err, x.want, got)
		}
	}
}

func TestStepLooksAtItsOwnFieldsP2202(t *testing.T) {
	c := config()
	full := api.Op{N: -5, Spans: []api.Span{{}}, Policy: api.Rule{Kind: 77}}
	for i, o := range []api.Op{ingest(work(1, 1)), tick(3), policy(kind(api.RErr, 0))} {
		want := play(t, c, o)
		other := full
		other.Kind = o.Kind
		switch o.Kind {
		case api.OIngest:
			other.Spans = o.Spans
		case api.OTick:
			other.N = o.N
		case api.OPolicy:
			other.Policy = o.Policy
		}
		same(t, fmt.Sprint(i), play(t, c, other), want)
	}
}

func TestIngestP2202(t *testing.T) {
	c := config()
	a, b := work(1, 1), failed(work(1, 2))
	b.Service, b.Parent = "r", 1
	s := play(t, c, ingest(a, b, work(2, 1), a))
	same(t, "open", s.Open, []api.Episode{{Trace: a.Trace, Spans: []api.Span{a, b}}, {Trace: api.Trace{Lo: 2}, Spans: []api.Span{work(2, 1)}}})
	same(t, "edges", s.Edges, []api.Edge{{From: "s", To: "r", Count: 1, Errs: 1}})
	one := api.Counter{Count: 1, Errs: 1, By: [8]int{1}}
	three := api.Counter{Count: 3, By: [8]int{3}}
	rows := []api.Row(nil)
	for level := range 3 {
		rows = append(rows, api.Row{Level: level, Service: "r", Op: "o", Counter: one}, api.Row{Level: level, Service: "s", Op: "o", Counter: three})
	}
	same(t, "rows", s.Rows, rows)
	if s.Now != 0 || s.Kept != 0 || s.Next != 0 || len(s.Pending)+len(s.Memo)+len(s.Slots)+len(s.Blocks) != 0 {
		t.Errorf("%v", s)
	}
	c.Cap = 2
	s = play(t, c, ingest(a, b, work(2, 1), a), ingest(a, b), ingest(a, b))
	same(t, "none above Cap", s.Edges, []api.Edge{{From: "s", To: "r", Count: 2, Errs: 2}})
	same(t, "none above Cap", s.Rows[1].Counter, api.Counter{Count: 2, By: [8]int{2}})
}

func TestIngestMakesRoomP2202(t *testing.T) {
	c := config()
	c.Most = 3
	s := play(t, c, policy(kind(api.RErr, 0)), ingest(failed(work(1, 1)), work(2, 1)), tick(0), ingest(work(1, 2)))
	if buffer.Count(s.Open) != 3 || len(s.Memo) != 0 {
		t.Fatalf("%v", s)
	}
	s = on(t, c, s, ingest(work(3, 1)))
	same(t, "the oldest is decided", s.Pending, []api.Episode{{Trace: api.Trace{Lo: 1}, Last: 1, Spans: []api.Span{failed(work(1, 1)), work(1, 2)}}})
	same(t, "it is remembered", s.Memo, []api.Verdict{{Trace: api.Trace{Lo: 1}, Kept: true}})
	same(t, "the others wait", len(s.Open), 2)
	same(t, "one was kept", s.Kept, 1)
	s = on(t, c, s, ingest(work(1, 3), work(2, 9)))
	same(t, "none more waits than may, and what comes late of a kept one is sure", s.Open, []api.Episode{
		{Trace: api.Trace{Lo: 3}, First: 1, Last: 1, Spans: []api.Span{work(3, 1)}},
		{Trace: api.Trace{Lo: 1}, First: 1, Last: 1, Sure: true, Spans: []api.Span{work(1, 3)}},
	})
	same(t, "what comes late of one that was let go is not put", s.Memo, []api.Verdict{{Trace: api.Trace{Lo: 2}}, {Trace: api.Trace{Lo: 1}, Kept: true}})
	same(t, "it is counted", s.Rows[0].Counter.Count, 6)
}

func TestIngestDecidesAtMostOneP2202(t *testing.T) {
	c := config()
	c.Most = 2
	s := model.First(c)
	for n := range uint64(4) {
		s.Open = append(s.Open, api.Episode{Trace: api.Trace{Lo: n}, First: int(4 - n), Last: 9, Spans: []api.Span{work(n, 1)}})
	}
	s = on(t, c, s, ingest(work(9, 1)))
	if len(s.Open) != 4 || len(s.Pending) != 1 || s.Pending[0].First != 1 {
		t.Errorf("%v", s)
	}
	c.Most = 1
	s = play(t, c, ingest(work(1, 1), work(1, 2)))
	same(t, "of the span's own trace", s.Open, []api.Episode{{Trace: api.Trace{Lo: 1}, Sure: true, Spans: []api.Span{work(1, 2)}}})
	s = play(t, c, policy(kind(api.RErr, 0)), ingest(work(1, 1), work(1, 2)))
	same(t, "of the span's own trace, let go", s.Open, []api.Episode{})
	c.Memo = 0
	s = play(t, c, policy(kind(api.RErr, 0)), ingest(work(1, 1), work(1, 2)))
	same(t, "no verdict is remembered", s.Open, []api.Episode{{Trace: api.Trace{Lo: 1}, Spans: []api.Span{work(1, 2)}}})
}

func TestTickP2202(t *testing.T) {
	c := config()
	s := play(t, c, tick(50))
	same(t, "a first tick", fmt.Sprint(s.Now, s.Sec, s.Kept, s.Next, len(s.Blocks)), "1 50 0 0 0")
	s = on(t, c, s, tick(40), tick(51))
	same(t, "seconds don't go back", fmt.Sprint(s.Now, s.Sec), "3 51")
	s = on(t, c, s, policy(kind(api.RErr, 0)), ingest(work(2, 1), failed(work(1, 5)), failed(work(1, 3))), tick(60))
	same(t, "not quiet yet", len(s.Open), 2)
	s = on(t, c, s, tick(60))
	if len(s.Open) != 0 || len(s.Pending) != 0 || s.Kept != 1 || s.Next != 1 {
		t.Errorf("%v", s)
	}
	e := api.Episode{Trace: api.Trace{Lo: 1}, First: 3, Last: 3, Spans: []api.Span{failed(work(1, 5)), failed(work(1, 3))}}
	same(t, "a block", s.Blocks, []api.Block{block.Make(0, 5, 0, []api.Episode{e})})
	same(t, "verdicts", s.Memo, []api.Verdict{{Trace: api.Trace{Lo: 1}, Kept: true}, {Trace: api.Trace{Lo: 2}}})
	same(t, "exemplars", s.Slots, []api.Exemplar{
		{Service: "s", Op: "o", Trace: api.Trace{Lo: 1}, Id: 3},
		{Service: "s", Op: "o", Trace: api.Trace{Lo: 1}, Id: 5},
	})
	s = on(t, c, s, tick(60))
	same(t, "no block of nothing", fmt.Sprint(s.Kept, s.Next, len(s.Blocks)), "0 1 1")
}

func TestTickPointsInTheOrderOfTheBlockP2202(t *testing.T) {
	c := config()
	c.Idle = 1
	s := play(t, c, ingest(work(3, 7), work(1, 8), work(2, 9), work(1, 2)), tick(0))
	same(t, "by trace", s.Blocks[0].Episodes[0].Spans, []api.Span{work(1, 8), work(1, 2)})
	same(t, "the last two", s.Slots, []api.Exemplar{
		{Service: "s", Op: "o", Trace: api.Trace{Lo: 3}, Id: 7},
		{Service: "s", Op: "o", Trace: api.Trace{Lo: 2}, Id: 9},
	})
	same(t, "verdicts in the order in which they waited", s.Memo, []api.Verdict{
		{Trace: api.Trace{Lo: 2}, Kept: true}, {Trace: api.Trace{Lo: 1}, Kept: true}, {Trace: api.Trace{Lo: 3}, Kept: true}})
}

func TestTickKeepsByRateP2202(t *testing.T) {
	c := config()
	c.Idle, c.Most = 1, 4
	s := play(t, c, policy(kind(api.RRate, 2)), ingest(work(1, 1), work(2, 1), work(3, 1), work(4, 1), work(5, 1)))
	same(t, "one was kept to make room", fmt.Sprint(s.Kept, len(s.Pending)), "1 1")
	s = on(t, c, s, tick(0))
	same(t, "two more, from zero again", fmt.Sprint(s.Kept, len(s.Blocks[0].Episodes)), "2 3")
	kept := []bool(nil)
	for _, v := range s.Memo {
		kept = append(kept, v.Kept)
	}
	same(t, "those that came first", kept, []bool{false, false, true, true})
}

func TestTickKeepsWhatIsSureP2202(t *testing.T) {
	c := config()
	c.Idle = 1
	s := play(t, c, ingest(work(1, 1)), tick(0), policy(kind(api.RErr, 0)), ingest(work(1, 2), work(2, 1)), tick(0))
	same(t, "two blocks", len(s.Blocks), 2)
	same(t, "sure", s.Blocks[1].Episodes, []api.Episode{{Trace: api.Trace{Lo: 1}, First: 1, Last: 1, Sure: true, Spans: []api.Span{work(1, 2)}}})
}

func TestTickClosesByAgeP2202(t *testing.T) {
	c := config()
	s := model.First(c)
	for n := range uint64(4) {
		s = on(t, c, s, ingest(work(1, n)), tick(0))
		same(t, "it is not quiet", len(s.Open), 1)
	}
	s = on(t, c, s, ingest(work(1, 4)), tick(0))
	same(t, "it is too old", fmt.Sprint(len(s.Open), len(s.Blocks)), "0 1")
}

func TestTickLetsBlocksGoP2202(t *testing.T) {
	c := config()
	c.Idle, c.Keep = 1, 2
	other := work(2, 1)
	other.Op = "p"
	s := play(t, c, ingest(work(1, 1)), tick(0), ingest(other), tick(0), tick(0))
	same(t, "both are young", fmt.Sprint(len(s.Blocks), len(s.Slots)), "2 2")
	s = on(t, c, s, tick(0))
	same(t, "one is too old", fmt.Sprint(s.Blocks[0].Number, s.Slots), fmt.Sprint(1, []api.Exemplar{{Service: "s", Op: "p", Trace: api.Trace{Lo: 2}, Id: 1, Block: 1}}))
	c.Keep, c.Budget = 100, 0
	s = on(t, c, s, ingest(work(3, 1)), tick(0))
	same(t, "one has no room", fmt.Sprint(len(s.Blocks), s.Blocks[0].Number, s.Slots), fmt.Sprint(1, 2, []api.Exemplar{{Service: "s", Op: "o", Trace: api.Trace{Lo: 3}, Id: 1, Block: 2}}))
}

func TestTickLetsAllOfANumberGoP2202(t *testing.T) {
	c := config()
	c.Keep = 5
	s := model.First(c)
	s.Now = 10
	s.Blocks = []api.Block{{Number: 3, Born: 1}, {Number: 3, Born: 10}, {Number: 4, Born: 10}}
	s.Slots = []api.Exemplar{{Service: "s", Op: "o", Block: 3}, {Service: "s", Op: "o", Block: 4}}
	s = on(t, c, s, tick(0))
	same(t, "all of the number", fmt.Sprint(len(s.Blocks), s.Blocks[0].Number, len(s.Slots), s.Slots[0].Block), "1 4 1 4")
}

func TestTickExpiresP2202(t *testing.T) {
	c := config()
	c.Horizon = [3]int{100, 1 << 30, 1 << 30}
	s := play(t, c, ingest(work(1, 1)), tick(159))
	same(t, "not behind", len(s.Rows), 3)
	s = on(t, c, s, tick(160))
	same(t, "behind", fmt.Sprint(len(s.Rows), s.Rows[0].Level), "2 1")
	s = on(t, c, s, ingest(work(1, 2)), tick(0))
	same(t, "at the greatest second", len(s.Rows), 2)
}

func TestPolicyP2202(t *testing.T) {
	c := config()
	r := api.Rule{Kind: api.RNot, Kids: []api.Rule{kind(api.RErr, 0)}}
	s := play(t, c, policy(r))
	want := model.First(c)
	want.Policy = r
	same(t, "the policy alone", s, want)
	r.Kids[0].Kind = api.RAll
	same(t, "it is the state's own", s.Policy.Kids[0].Kind, api.RErr)
}

func TestCompactP2202(t *testing.T) {
	c := config()
	c.Idle = 1
	s := model.First(c)
	for n := range uint64(3) {
		other := work(9-n, 1)
		other.Op = string([]byte{'o', byte('0' + n)})
		s = on(t, c, s, ingest(other), tick(0))
	}
	before := s
	s = on(t, c, s, compact)
	if len(s.Blocks) != 2 || s.Next != 4 || s.Now != 3 {
		t.Fatalf("%v", s)
	}
	same(t, "joined", fmt.Sprint(s.Blocks[0].Number, s.Blocks[0].Born, s.Blocks[0].Tier, len(s.Blocks[0].Episodes), s.Blocks[0].Episodes[0].Trace.Lo), "3 2 1 2 8")
	same(t, "the other one stays", s.Blocks[1], before.Blocks[2])
	same(t, "exemplars move", fmt.Sprint(s.Slots[0].Block, s.Slots[1].Block, s.Slots[2].Block), "3 3 2")
	if _, err := model.Step(c, s, compact); err != api.ErrNone {
		t.Errorf("no two of a tier: %d", err)
	}
}

func TestCompactComesToThePlaceOfTheFirstP2202(t *testing.T) {
	c := config()
	s := model.First(c)
	s.Next = 50
	s.Blocks = []api.Block{{Number: 1, Tier: 2}, {Number: 2, Tier: 0}, {Number: 3, Tier: 1}, {Number: 4, Tier: 0}, {Number: 5, Tier: 0}}
	s = on(t, c, s, compact)
	numbers := []int(nil)
	for _, b := range s.Blocks {
		numbers = append(numbers, b.Number)
	}
	same(t, "places", numbers, []int{1, 50, 3, 5})
}

func TestRunTellsWhatItMade(t *testing.T) {
	c := config()
	c.Idle = 1
	s := model.First(c)
	for i, x := range []struct {
		o    api.Op
		made int
	}{{ingest(work(1, 1)), 0}, {tick(0), 1}, {tick(0), 0}, {ingest(work(2, 1)), 0}, {tick(0), 1}, {policy(kind(api.RErr, 0)), 0}, {compact, 1}} {
		next, made, err := model.Run(c, s, x.o)
		if err != api.OK || len(made) != x.made || x.made == 1 && made[0].Number != s.Next {
			t.Errorf("%d: %v %d", i, made, err)
		}
		s = next
	}
}
