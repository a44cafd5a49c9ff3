package gleaning_test

import (
	"fmt"
	"math"
	"strings"
	"testing"

	"gleaning/api"
	"gleaning/batch"
	"gleaning/gleaning"
	"gleaning/model"
	"gleaning/query"
	"gleaning/rule"
	"gleaning/state"
)

// config is one that closes traces after a tick.
func config() api.Config {
	return api.Config{Idle: 1, Age: 5, Most: 10, Memo: 4, Cap: 100, Keep: 100, Budget: 1 << 20, Horizon: [3]int{1 << 30, 1 << 30, 1 << 30}}
}

// work is a span of a trace.
func work(trace, id uint64, service string, parent uint64) api.Span {
	return api.Span{Trace: api.Trace{Lo: trace}, Id: id, Service: service, Op: "o", Parent: parent, Attrs: []api.Attr{{Key: "k"}}}
}

// call is two spans of a trace: a service calls another one.
func call(trace uint64) []api.Span {
	return []api.Span{work(trace, 1, "a", 0), work(trace, 2, "b", 1)}
}

// ingest is the event of a batch.
func ingest(l []api.Span) api.Event {
	return api.Event{Kind: api.EIngest, Data: batch.Bytes(l)}
}

// policy is the event of a policy.
func policy(r api.Rule) api.Event {
	return api.Event{Kind: api.EPolicy, Data: rule.Bytes(r)}
}

var (
	tick      = api.Event{Kind: api.ETick, N: 60}
	compact   = api.Event{Kind: api.ECompact}
	save      = api.Event{Kind: api.ESave}
	fall      = api.Event{Kind: api.ECrash}
	rise      = api.Event{Kind: api.ERecover}
	get       = api.Event{Kind: api.EGet, Trace: api.Trace{Lo: 1}}
	rows      = api.Event{Kind: api.ERows, Service: "a", Op: "o"}
	edges     = api.Event{Kind: api.EEdges}
	slots     = api.Event{Kind: api.ESlots, Service: "a", Op: "o"}
	needsAll  = []api.Event{ingest(call(1)), tick, policy(api.Rule{Kind: api.RAll}), compact, save, get, rows, edges, slots}
	needsNone = []api.Event{{Kind: api.EFuse, N: -1}, fall, rise}
)

// store is a new one with room.
func store(t *testing.T) *gleaning.Store {
	t.Helper()
	s, err := gleaning.New(config(), 1<<20)
	if err != api.OK {
		t.Fatalf("New: %d", err)
	}
	return s
}

// do asks for replies of these errors, of none at the end.
func do(t *testing.T, s *gleaning.Store, l ...api.Event) {
	t.Helper()
	for i, e := range l {
		if r := s.Do(e); r.Err != api.OK {
			t.Fatalf("event %d, kind %d: %d", i, e.Kind, r.Err)
		}
	}
}

// refused asks for an error, and nothing beside.
func refused(t *testing.T, s *gleaning.Store, e api.Event, want api.Errno) {
	t.Helper()
	if r := s.Do(e); fmt.Sprint(r) != fmt.Sprint(api.Reply{Err: want}) {
		t.Errorf("kind %d: %v, not %d", e.Kind, r, want)
	}
}

// same holds a thing against another one.
func same(t *testing.T, what string, got, want any) {
	t.Helper()
	if g, w := fmt.Sprint(got), fmt.Sprint(want); g != w {
		t.Errorf("%s: %s, not %s", what, g, w)
	}
}

// names are the names of a store's files.
func names(s *gleaning.Store) string {
	out := []string(nil)
	for _, f := range s.Files() {
		out = append(out, f.Name)
	}
	return strings.Join(out, " ")
}

func TestNewP2701(t *testing.T) {
	for i, x := range []struct {
		c    api.Config
		room int
		want api.Errno
	}{
		{config(), 0, api.OK}, {config(), math.MaxInt, api.OK},
		{config(), -1, api.ErrArg}, {config(), math.MinInt, api.ErrArg}, {api.Config{}, 5, api.ErrArg}, {api.Config{}, -5, api.ErrArg},
	} {
		s, err := gleaning.New(x.c, x.room)
		if err != x.want || (s != nil) != (err == api.OK) {
			t.Errorf("%d: %v %d", i, s, err)
		}
	}
	s := store(t)
	all, ok := s.State()
	if !ok || !state.Same(all, model.First(config())) || len(s.Files()) != 0 {
		t.Errorf("%v %v", all, ok)
	}
}

func TestDoP2701(t *testing.T) {
	s := store(t)
	do(t, s, policy(api.Rule{Kind: api.RErr}), ingest(call(1)), policy(api.Rule{Kind: api.RAll}), tick, ingest(call(2)), tick, compact)
	want := model.First(config())
	for _, o := range []api.Op{
		{Kind: api.OPolicy, Policy: api.Rule{Kind: api.RErr}}, {Kind: api.OIngest, Spans: call(1)}, {Kind: api.OPolicy, Policy: api.Rule{Kind: api.RAll}},
		{Kind: api.OTick, N: 60}, {Kind: api.OIngest, Spans: call(2)}, {Kind: api.OTick, N: 60}, {Kind: api.OCompact},
	} {
		want, _ = model.Step(config(), want, o)
	}
	all, ok := s.State()
	if !ok || !state.Same(all, want) {
		t.Fatalf("%v, not %v", all, want)
	}
	same(t, "files", names(s), "b0 b1 b2 j0")
	do(t, s, save)
	same(t, "files that are saved", names(s), "b2 m s0")
}

func TestAskP2701(t *testing.T) {
	s := store(t)
	refused(t, s, get, api.ErrNone)
	same(t, "no rows", s.Do(rows), api.Reply{})
	same(t, "no edges", s.Do(edges), api.Reply{})
	same(t, "no exemplars", s.Do(slots), api.Reply{})
	do(t, s, ingest(call(1)), tick)
	all, _ := s.State()
	same(t, "spans", s.Do(get), api.Reply{Spans: call(1)})
	for level := -1; level < 4; level++ {
		e := rows
		e.N = level
		same(t, "rows", s.Do(e), api.Reply{Rows: query.Rows(all, "a", "o", level)})
	}
	same(t, "a row", len(s.Do(rows).Rows), 1)
	same(t, "an edge", s.Do(edges), api.Reply{Edges: []api.Edge{{From: "a", To: "b", Count: 1}}})
	same(t, "an exemplar", s.Do(slots), api.Reply{Slots: []api.Exemplar{{Service: "a", Op: "o", Trace: api.Trace{Lo: 1}, Id: 1}}})
}

func TestDoRefusesP2701(t *testing.T) {
	s := store(t)
	for _, kind := range []int{0, -1, 13, math.MaxInt, math.MinInt} {
		refused(t, s, api.Event{Kind: kind}, api.ErrArg)
	}
	refused(t, s, api.Event{Kind: api.EIngest}, api.ErrBytes)
	refused(t, s, api.Event{Kind: api.EIngest, Data: batch.Bytes(call(1))[1:]}, api.ErrBytes)
	refused(t, s, api.Event{Kind: api.EPolicy}, api.ErrBytes)
	refused(t, s, api.Event{Kind: api.EPolicy, Data: []byte{3, 0}}, api.ErrBytes)
	refused(t, s, api.Event{Kind: api.ETick, N: -1}, api.ErrArg)
	refused(t, s, api.Event{Kind: api.ETick, N: api.MaxStart + 1}, api.ErrArg)
	refused(t, s, compact, api.ErrNone)
	all, ok := s.State()
	if !ok || !state.Same(all, model.First(config())) || names(s) != "" {
		t.Errorf("something was turned: %v", all)
	}
	small, _ := gleaning.New(config(), 10)
	for _, e := range []api.Event{ingest(call(1)), save} {
		refused(t, small, e, api.ErrFull)
	}
	do(t, small, tick)
}

func TestDownP2701(t *testing.T) {
	s := store(t)
	do(t, s, ingest(call(1)), tick)
	want, _ := s.State()
	do(t, s, fall)
	wrong := []api.Event{{Kind: api.EIngest}, {Kind: api.EPolicy}, {Kind: api.ETick, N: -1}}
	for _, e := range append(wrong, needsAll...) {
		refused(t, s, e, api.ErrDown)
	}
	refused(t, s, api.Event{Kind: 99}, api.ErrArg)
	if all, ok := s.State(); ok || !state.Same(all, api.State{}) {
		t.Errorf("%v %v", all, ok)
	}
	same(t, "files", names(s), "b0 j0")
	do(t, s, fall, rise)
	if all, ok := s.State(); !ok || !state.Same(all, want) {
		t.Errorf("%v %v", all, ok)
	}
	do(t, s, needsAll[0], rise)
	same(t, "all anew", len(s.Do(edges).Edges), 1)
	do(t, s, needsNone...)
}

func TestTheKeeperIsDownP2701(t *testing.T) {
	s := store(t)
	do(t, s, ingest(call(1)), api.Event{Kind: api.EFuse, N: 1})
	refused(t, s, tick, api.ErrDown)
	for _, e := range append([]api.Event{{Kind: api.EIngest}, {Kind: api.EPolicy}}, needsAll...) {
		refused(t, s, e, api.ErrDown)
	}
	if all, ok := s.State(); ok || !state.Same(all, api.State{}) {
		t.Errorf("%v %v", all, ok)
	}
	do(t, s, api.Event{Kind: api.ECrash, Picks: []int{1}}, rise)
	all, ok := s.State()
	if !ok || all.Now != 0 || len(all.Open) != 1 {
		t.Errorf("%v %v", all, ok)
	}
	do(t, s, api.Event{Kind: api.EFuse, N: 1})
	refused(t, s, tick, api.ErrDown)
	do(t, s, api.Event{Kind: api.ECrash, Picks: []int{100, 100}}, rise)
	if all, _ := s.State(); all.Now != 1 || len(all.Blocks) != 1 {
		t.Errorf("what was not answered is whole: %v", all)
	}
}

func TestRecoverErrsP2701(t *testing.T) {
	s := store(t)
	do(t, s, ingest(call(1)), tick, save, ingest(call(2)), tick, compact, save)
	do(t, s, ingest(call(3)), api.Event{Kind: api.EFuse, N: 3})
	refused(t, s, tick, api.ErrDown)
	do(t, s, api.Event{Kind: api.EFuse, N: 0})
	refused(t, s, rise, api.ErrDown)
	refused(t, s, get, api.ErrDown)
	do(t, s, fall, rise, get)
	s = store(t)
	do(t, s, ingest(call(1)), tick, ingest(call(2)), tick, compact, api.Event{Kind: api.EFuse})
	refused(t, s, rise, api.ErrDown)
	refused(t, s, get, api.ErrDown)
	do(t, s, api.Event{Kind: api.EFuse, N: -1})
	if _, ok := s.State(); ok {
		t.Error("it was not down, and is not down")
	}
	do(t, s, rise, get)
	s = store(t)
	do(t, s, ingest(call(1)), api.Event{Kind: api.EFuse, N: 3})
	refused(t, s, tick, api.ErrDown)
	do(t, s, api.Event{Kind: api.EFuse, N: -1}, rise, get, api.Event{Kind: api.EFuse, N: 0}, rise, get)
}

func TestPlayP2702(t *testing.T) {
	l := []api.Event{ingest(call(1)), tick, get, {Kind: 99}, fall, edges, rise, edges}
	got, err := gleaning.Play(config(), 1<<20, l)
	s := store(t)
	want := []api.Reply(nil)
	for _, e := range l {
		want = append(want, s.Do(e))
	}
	same(t, "replies", got, want)
	same(t, "no error", err, api.OK)
	if got, err := gleaning.Play(config(), 5, nil); len(got) != 0 || err != api.OK {
		t.Errorf("of nothing: %v %d", got, err)
	}
	if got, err := gleaning.Play(config(), -1, l); len(got) != 0 || err != api.ErrArg {
		t.Errorf("no room: %v %d", got, err)
	}
	if got, err := gleaning.Play(api.Config{}, 5, l); len(got) != 0 || err != api.ErrArg {
		t.Errorf("no config: %v %d", got, err)
	}
}

func TestNilP2702(t *testing.T) {
	s := (*gleaning.Store)(nil)
	for _, e := range append(needsAll, needsNone...) {
		refused(t, s, e, api.ErrArg)
	}
	if all, ok := s.State(); ok || !state.Same(all, api.State{}) || s.Files() != nil {
		t.Error("a nil one")
	}
	zero := new(gleaning.Store)
	for _, e := range needsAll {
		refused(t, zero, e, api.ErrDown)
	}
	refused(t, zero, rise, api.ErrArg)
	do(t, zero, fall, api.Event{Kind: api.EFuse})
	if _, ok := zero.State(); ok || len(zero.Files()) != 0 {
		t.Error("a zero one")
	}
}

func TestTwoHaveNothingInCommonP2702(t *testing.T) {
	one, two := store(t), store(t)
	e := ingest(call(1))
	do(t, one, e)
	clear(e.Data)
	do(t, one, tick)
	r := one.Do(get)
	before := fmt.Sprint(r)
	clear(r.Spans[0].Attrs)
	clear(r.Spans)
	clear(one.Files()[0].Data)
	all, _ := one.State()
	clear(all.Blocks[0].Episodes)
	same(t, "asked again", one.Do(get), before)
	refused(t, two, get, api.ErrNone)
	do(t, one, fall)
	do(t, two, tick)
}
