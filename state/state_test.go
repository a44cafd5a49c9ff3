package state_test

import (
	"bytes"
	"fmt"
	"math"
	"slices"
	"strings"
	"testing"

	"gleaning/api"
	"gleaning/check"
	"gleaning/ints"
	"gleaning/sample"
	"gleaning/span"
	"gleaning/state"
)

// over is a name that is too long.
var over = strings.Repeat("x", api.MaxName+1)

// work is a span of a trace.
func work(lo, id uint64) api.Span {
	return api.Span{Trace: api.Trace{Lo: lo}, Id: id, Service: "s", Op: "o", Attrs: []api.Attr{{Key: "k"}}}
}

// of is an episode of a trace with spans of these Ids.
func of(lo uint64, ids ...uint64) api.Episode {
	e := api.Episode{Trace: api.Trace{Lo: lo}, First: 3, Last: 4}
	for _, id := range ids {
		e.Spans = append(e.Spans, work(lo, id))
	}
	return e
}

// full is a state that has all.
func full() api.State {
	return api.State{
		Now: 300, Sec: 5, Kept: 2, Next: 9,
		Policy:  api.Rule{Kind: api.RNot, Kids: []api.Rule{{Kind: api.RErr}}},
		Open:    []api.Episode{of(2, 1, 2), of(1, 1)},
		Pending: []api.Episode{{Trace: api.Trace{Lo: 1}, Sure: true, Spans: []api.Span{work(1, 7)}}},
		Memo:    []api.Verdict{{Trace: api.Trace{Hi: 300, Lo: 2}, Kept: true}, {}},
		Rows:    []api.Row{{Level: 2, Window: 300, Service: "s", Op: "o", Counter: api.Counter{Count: 300, Errs: 1, By: [8]int{1, 2, 3, 4, 5, 6, 7, 272}}}, {Service: "a", Op: "b"}},
		Edges:   []api.Edge{{From: "a", To: "b", Count: 300, Errs: 4}},
		Slots:   []api.Exemplar{{Service: "s", Op: "o", Trace: api.Trace{Hi: 1, Lo: 2}, Id: 300, Block: 8}},
		Blocks:  []api.Block{{Number: 8, Born: 7, Tier: 6, Episodes: []api.Episode{of(5, 6)}}, {Number: 300}},
	}
}

// bare is a state without the episodes of its blocks.
func bare(s api.State) api.State {
	s.Blocks = slices.Clone(s.Blocks)
	for i := range s.Blocks {
		s.Blocks[i].Episodes = nil
	}
	return s
}

// summed puts the sum behind bytes.
func summed(b []byte) []byte {
	sum := check.Sum(b)
	return append(bytes.Clone(b), byte(sum), byte(sum>>8), byte(sum>>16), byte(sum>>24))
}

func TestRightP2101(t *testing.T) {
	const most = api.MaxEpochs
	long := strings.Repeat("x", api.MaxName)
	for i, turn := range []func(s *api.State){
		func(s *api.State) {},
		func(s *api.State) { *s = api.State{Policy: s.Policy} },
		func(s *api.State) { s.Now, s.Sec, s.Kept, s.Next = 0, 0, 0, 0 },
		func(s *api.State) { s.Now, s.Sec, s.Kept, s.Next = most, most, most, most },
		func(s *api.State) { s.Open = append(s.Open, s.Open...) },
		func(s *api.State) { s.Open[0].First, s.Open[0].Last = most, 0 },
		func(s *api.State) { s.Rows = append(s.Rows, s.Rows...) },
		func(s *api.State) { s.Rows[0].Window = api.MaxStart / 86400 },
		func(s *api.State) { s.Rows[0].Service, s.Rows[0].Op = long, long },
		func(s *api.State) { s.Rows[0].Counter = api.Counter{Count: most, Errs: most, By: [8]int{most}} },
		func(s *api.State) { s.Edges[0] = api.Edge{From: long, To: long, Count: most, Errs: most} },
		func(s *api.State) { s.Slots[0] = api.Exemplar{Service: long, Op: long, Block: most} },
		func(s *api.State) { s.Blocks[0] = api.Block{Number: most, Born: most, Tier: most} },
		func(s *api.State) { s.Blocks[0].Episodes = []api.Episode{{First: -1}} },
	} {
		s := full()
		turn(&s)
		if !state.Right(s) {
			t.Errorf("%d: not right", i)
		}
		got, err := state.Read(state.Bytes(s))
		if err != api.OK || !state.Same(got, bare(s)) {
			t.Errorf("%d: %v %d", i, got, err)
		}
	}
}

// wrongTurns make a state not right, each for itself.
func wrongTurns() []func(s *api.State) {
	const most = api.MaxEpochs
	return []func(s *api.State){
		func(s *api.State) { s.Now = -1 },
		func(s *api.State) { s.Now = most + 1 },
		func(s *api.State) { s.Sec = -1 },
		func(s *api.State) { s.Sec = math.MaxInt },
		func(s *api.State) { s.Kept = math.MinInt },
		func(s *api.State) { s.Kept = most + 1 },
		func(s *api.State) { s.Next = -1 },
		func(s *api.State) { s.Next = most + 1 },
		func(s *api.State) { s.Policy = api.Rule{} },
		func(s *api.State) { s.Policy.Kids = s.Policy.Kids[:0] },
		func(s *api.State) { s.Open[1].First = -1 },
		func(s *api.State) { s.Open[1].Last = most + 1 },
		func(s *api.State) { s.Open[1].Spans = nil },
		func(s *api.State) { s.Open[0].Spans[1].Id = 1 },
		func(s *api.State) { s.Open[0].Trace.Hi = 1 },
		func(s *api.State) { s.Open[0].Spans[1].Op = "" },
		func(s *api.State) { s.Pending[0].Last = -1 },
		func(s *api.State) { s.Pending[0].First = most + 1 },
		func(s *api.State) { s.Pending[0].Spans[0].Trace.Lo = 9 },
		func(s *api.State) { s.Rows[1].Level = -1 },
		func(s *api.State) { s.Rows[1].Level = 3 },
		func(s *api.State) { s.Rows[1].Window = -1 },
		func(s *api.State) { s.Rows[0].Window = api.MaxStart/86400 + 1 },
		func(s *api.State) { s.Rows[1].Service = "" },
		func(s *api.State) { s.Rows[1].Op = over },
		func(s *api.State) { s.Rows[1].Counter.Count = -1 },
		func(s *api.State) { s.Rows[1].Counter.Errs = most + 1 },
		func(s *api.State) { s.Rows[1].Counter.By[0] = -1 },
		func(s *api.State) { s.Rows[1].Counter.By[7] = most + 1 },
		func(s *api.State) { s.Edges[0].From = "" },
		func(s *api.State) { s.Edges[0].To = over },
		func(s *api.State) { s.Edges[0].Count = -1 },
		func(s *api.State) { s.Edges[0].Errs = most + 1 },
		func(s *api.State) { s.Slots[0].Service = over },
		func(s *api.State) { s.Slots[0].Op = "" },
		func(s *api.State) { s.Slots[0].Block = -1 },
		func(s *api.State) { s.Slots[0].Block = most + 1 },
		func(s *api.State) { s.Blocks[1].Number = -1 },
		func(s *api.State) { s.Blocks[1].Born = most + 1 },
		func(s *api.State) { s.Blocks[1].Tier = -1 },
	}
}

func TestNotRightP2101(t *testing.T) {
	for i, turn := range wrongTurns() {
		s := full()
		turn(&s)
		if state.Right(s) || len(state.Bytes(s)) != 0 {
			t.Errorf("%d: right", i)
		}
	}
	if state.Right(api.State{}) || len(state.Bytes(api.State{})) != 0 {
		t.Error("a zero one is right")
	}
}

// spans writes spans with how many ahead.
func spans(l ...api.Span) string {
	b := ints.Put(nil, uint64(len(l)))
	for _, s := range l {
		b = append(b, span.Bytes(s)...)
	}
	return string(b)
}

// fullBytes are those of full, without the sum.
func fullBytes() string {
	return "\xac\x02\x05\x02\x09" +
		"\x03\x03\x01\x05" +
		"\x02\x00\x02\x03\x04\x00" + spans(work(2, 1), work(2, 2)) + "\x00\x01\x03\x04\x00" + spans(work(1, 1)) +
		"\x01\x00\x01\x00\x00\x01" + spans(work(1, 7)) +
		"\x02\xac\x02\x02\x01\x00\x00\x00" +
		"\x02\x02\xac\x02\x01s\x01o\xac\x02\x01\x01\x02\x03\x04\x05\x06\x07\x90\x02" + "\x00\x00\x01a\x01b" + strings.Repeat("\x00", 10) +
		"\x01\x01a\x01b\xac\x02\x04" +
		"\x01\x01s\x01o\x01\x02\xac\x02\x08" +
		"\x02\x08\x07\x06\xac\x02\x00\x00"
}

func TestBytesP2101(t *testing.T) {
	want := summed([]byte(fullBytes()))
	if got := state.Bytes(full()); !bytes.Equal(got, want) {
		t.Errorf("%q, not %q", got, want)
	}
	small := api.State{Policy: api.Rule{Kind: api.RAll}}
	if got := state.Bytes(small); !bytes.Equal(got, summed([]byte("\x00\x00\x00\x00\x02\x01\x00\x00\x00\x00\x00\x00\x00\x00"))) {
		t.Errorf("%q", got)
	}
}

func TestReadOfNoneP2101(t *testing.T) {
	whole := fullBytes()
	wrong := [][]byte{
		nil,
		make([]byte, 4),
		[]byte(whole),
		summed([]byte(whole + "\x00")),
		append(summed([]byte(whole)), 0),
		summed([]byte("\x00\x00\x00\x00\x02\x01\x00" + string(ints.Put(nil, math.MaxUint64)))),
		summed([]byte("\x00\x00\x00\x00\x02\x01\x00\x00\x00" + string(ints.Put(nil, 1<<62)))),
		summed([]byte("\x00\x00\x00\x00\x02\x01\x00\x00\x00\x80\x00\x00\x00\x00\x00")),
		summed([]byte("\x00\x00\x00\x00\x03\x01\x00\x00\x00\x00\x00\x00\x00\x00\x00")),
		summed([]byte("\x00\x00\x00\x00\x00\x00\x00\x00\x00\x00\x00\x00")),
		summed([]byte("\x00\x00\x00\x00\x02\x01\x00\x00\x00\x01\x00\x00\x02\x00\x00\x00\x00")),
		summed([]byte(string(ints.Put(nil, api.MaxEpochs+1)) + "\x00\x00\x00\x02\x01\x00\x00\x00\x00\x00\x00\x00\x00")),
		summed([]byte("\x00\x00\x00\x00\x02\x01\x00\x00\x00\x00\x01\x03\x00\x01a\x01b" + strings.Repeat("\x00", 10) + "\x00\x00\x00")),
	}
	for cut := range len(whole) {
		wrong = append(wrong, summed([]byte(whole[:cut])))
	}
	for i, b := range wrong {
		if got, err := state.Read(b); err != api.ErrBytes || !state.Same(got, api.State{}) {
			t.Errorf("%d: %q: %v %d", i, b, got, err)
		}
	}
}

func TestReadIsBytesBackP2101(t *testing.T) {
	c := sample.Chance(21)
	for range 1000 {
		s := c.State()
		if !state.Right(s) {
			t.Fatal("not right")
		}
		b := state.Bytes(s)
		if got, err := state.Read(b); err != api.OK || !state.Same(got, s) {
			t.Fatalf("%v: %v %d", s, got, err)
		}
		b = b[:len(b)-4]
		b[c.Next(len(b))] = byte(c.Next(256))
		if got, err := state.Read(summed(b)); err == api.OK && !bytes.Equal(state.Bytes(got), summed(b)) {
			t.Fatalf("%q: %v", b, got)
		}
	}
}

func TestSameP2102(t *testing.T) {
	if !state.Same(full(), full()) || !state.Same(full(), state.Copy(full())) {
		t.Error("not the same")
	}
	empty := api.State{Open: []api.Episode{}, Memo: []api.Verdict{}, Blocks: []api.Block{}}
	if !state.Same(empty, api.State{}) {
		t.Error("nil and an empty list are not the same")
	}
	for i, turn := range append(wrongTurns(),
		func(s *api.State) { s.Policy.Kids[0].Kind = api.RAll },
		func(s *api.State) { s.Open[0].Sure = true },
		func(s *api.State) { s.Open[0].Spans[0].Attrs[0].Value = "x" },
		func(s *api.State) { s.Open[0], s.Open[1] = s.Open[1], s.Open[0] },
		func(s *api.State) { s.Open = s.Open[:1] },
		func(s *api.State) { s.Pending[0].Spans[0].Dur = 1 },
		func(s *api.State) { s.Pending = nil },
		func(s *api.State) { s.Memo[0].Kept = false },
		func(s *api.State) { s.Memo[1].Trace.Hi = 1 },
		func(s *api.State) { s.Slots[0].Trace.Hi = 4 },
		func(s *api.State) { s.Slots[0].Id = 4 },
		func(s *api.State) { s.Blocks[0].Episodes = nil },
		func(s *api.State) { s.Blocks[0].Episodes[0].Spans[0].Parent = 9 },
		func(s *api.State) { s.Blocks[0].Episodes[0].First = 9 },
		func(s *api.State) { s.Blocks = s.Blocks[:1] },
	) {
		s := full()
		turn(&s)
		if state.Same(s, full()) || state.Same(full(), s) {
			t.Errorf("%d: the same", i)
		}
	}
}

func TestNewMemoryP2102(t *testing.T) {
	s := full()
	before := fmt.Sprint(s)
	b := state.Bytes(s)
	read, _ := state.Read(b)
	clear(b)
	if !state.Same(read, bare(s)) {
		t.Error("what was read hangs on the bytes")
	}
	for _, turn := range append(wrongTurns(),
		func(s *api.State) { s.Memo[0].Kept = false },
		func(s *api.State) { s.Pending[0].Spans[0].Attrs[0].Key = "x" },
		func(s *api.State) { s.Blocks[0].Episodes[0].Spans[0].Attrs[0].Key = "x" },
		func(s *api.State) { s.Policy.Kids[0].Kind = 7 },
	) {
		copied := state.Copy(s)
		turn(&copied)
		if fmt.Sprint(s) != before {
			t.Fatal("memory is shared")
		}
	}
}
