package keeper_test

import (
	"bytes"
	"fmt"
	"math"
	"strings"
	"sync"
	"testing"

	"gleaning/api"
	"gleaning/batch"
	"gleaning/block"
	"gleaning/check"
	"gleaning/device"
	"gleaning/frame"
	"gleaning/ints"
	"gleaning/journal"
	"gleaning/keeper"
	"gleaning/model"
	"gleaning/rule"
	"gleaning/sample"
	"gleaning/shelf"
	"gleaning/state"
)

// config is one that closes traces after a tick.
func config() api.Config {
	return api.Config{Idle: 1, Age: 5, Most: 10, Memo: 4, Cap: 100, Keep: 100, Budget: 1 << 20, Horizon: [3]int{1 << 30, 1 << 30, 1 << 30}}
}

// fresh is a keeper of a new device.
func fresh(room int) (*keeper.Keeper, *device.Device) {
	d := device.New(room)
	return on(d, config()), d
}

// on is a keeper of the first state.
func on(d *device.Device, c api.Config) *keeper.Keeper {
	j, _ := journal.Open(d, 0)
	return keeper.New(c, d, j, model.First(c), keeper.NoSnap)
}

// ingest is an operation with a span of a trace.
func ingest(trace uint64) api.Op {
	return api.Op{Kind: api.OIngest, Spans: []api.Span{{Trace: api.Trace{Lo: trace}, Service: "s", Op: "o"}}}
}

var (
	tick    = api.Op{Kind: api.OTick, N: 60}
	compact = api.Op{Kind: api.OCompact}
	errs    = api.Op{Kind: api.OPolicy, Policy: api.Rule{Kind: api.RErr}}
)

// names are the names of a device's files.
func names(d *device.Device) string {
	out := []string(nil)
	for _, f := range d.Files() {
		out = append(out, f.Name)
	}
	return strings.Join(out, " ")
}

// done asks for no error.
func done(t *testing.T, k *keeper.Keeper, l ...api.Op) {
	t.Helper()
	for i, o := range l {
		if err := k.Do(o); err != api.OK {
			t.Fatalf("operation %d: %d", i, err)
		}
	}
}

// found are the operations of a journal.
func found(d *device.Device, first int) []api.Op {
	_, l := journal.Open(d, first)
	out := []api.Op(nil)
	for _, b := range l {
		o, _ := keeper.ReadOp(b)
		out = append(out, o)
	}
	return out
}

func TestOpP2501(t *testing.T) {
	c := sample.Chance(25)
	l := c.Spans(3, 4)
	cases := []struct {
		o    api.Op
		want []byte
	}{
		{api.Op{Kind: api.OIngest, Spans: l}, append([]byte{1}, batch.Bytes(l)...)},
		{api.Op{Kind: api.OTick}, []byte{2, 0}},
		{api.Op{Kind: api.OTick, N: 300}, []byte{2, 172, 2}},
		{api.Op{Kind: api.OTick, N: api.MaxStart}, ints.Put([]byte{2}, api.MaxStart)},
		{errs, append([]byte{3}, rule.Bytes(errs.Policy)...)},
		{compact, []byte{4}},
	}
	for i, x := range cases {
		if got := keeper.Op(x.o); !bytes.Equal(got, x.want) {
			t.Errorf("%d: %v, not %v", i, got, x.want)
		}
		if got, err := keeper.ReadOp(x.want); err != api.OK || fmt.Sprint(got) != fmt.Sprint(x.o) {
			t.Errorf("%d: %v %d", i, got, err)
		}
		other := x.o
		switch other.Kind {
		case api.OTick:
			other.Spans, other.Policy.Kind = l, 7
		case api.OCompact:
			other.N, other.Policy.Kind = -1, 7
		}
		if got := keeper.Op(other); !bytes.Equal(got, x.want) {
			t.Errorf("%d: %v, not %v: fields that are not named", i, got, x.want)
		}
	}
}

func TestOpOfNoneP2501(t *testing.T) {
	c := sample.Chance(26)
	for i, o := range []api.Op{
		{}, {Kind: -1}, {Kind: 5}, {Kind: 257}, {Kind: 260}, {Kind: math.MinInt},
		{Kind: api.OIngest}, {Kind: api.OIngest, Spans: []api.Span{{}}}, {Kind: api.OIngest, Spans: c.Spans(51, 4)},
		{Kind: api.OTick, N: -1}, {Kind: api.OTick, N: api.MaxStart + 1},
		{Kind: api.OPolicy}, {Kind: api.OPolicy, Policy: api.Rule{Kind: api.RErr, N: 1}},
	} {
		if b := keeper.Op(o); len(b) != 0 {
			t.Errorf("%d: %v", i, b)
		}
	}
}

func TestReadOpOfNoneP2501(t *testing.T) {
	c := sample.Chance(27)
	good := keeper.Op(api.Op{Kind: api.OIngest, Spans: c.Spans(2, 4)})
	wrong := [][]byte{
		nil, {0}, {5}, {255}, {0, 0}, {132, 0}, {4, 0}, {4, 4},
		{1}, {1, 0, 0, 0, 0}, append(bytes.Clone(good), 0),
		{2}, {2, 128}, {2, 128, 0}, {2, 1, 0}, ints.Put([]byte{2}, api.MaxStart+1), ints.Put([]byte{2}, math.MaxUint64),
		{3}, {3, 0}, {3, 5, 0}, {3, 1, 1}, {3, 4, 129, 0},
	}
	for cut := range good {
		wrong = append(wrong, good[:cut])
	}
	for i, b := range wrong {
		if o, err := keeper.ReadOp(b); err != api.ErrBytes || fmt.Sprint(o) != fmt.Sprint(api.Op{}) {
			t.Errorf("%d: %v: %v %d", i, b, o, err)
		}
	}
}

func TestMark(t *testing.T) {
	b := keeper.Mark(300, 7)
	sum := check.Sum([]byte{172, 2, 7})
	if !bytes.Equal(b, []byte{172, 2, 7, byte(sum), byte(sum >> 8), byte(sum >> 16), byte(sum >> 24)}) {
		t.Errorf("%v", b)
	}
	if snap, first, ok := keeper.ReadMark(b); snap != 300 || first != 7 || !ok {
		t.Errorf("%d %d %v", snap, first, ok)
	}
	wrong := [][]byte{append(bytes.Clone(b), 0), check.Append([]byte{1, 2, 3}), check.Append([]byte{1}), check.Append([]byte{1, 128, 0}), check.Append(ints.Put([]byte{0}, 1<<63))}
	for cut := range b {
		wrong = append(wrong, b[:cut])
	}
	for i, b := range wrong {
		if snap, first, ok := keeper.ReadMark(b); snap != 0 || first != 0 || ok {
			t.Errorf("%d: %d %d %v", i, snap, first, ok)
		}
	}
}

func TestDoP2502(t *testing.T) {
	k, d := fresh(1 << 20)
	want := model.First(config())
	if !state.Same(k.State(), want) || k.Down() || names(d) != "" {
		t.Fatal("not the first state")
	}
	l := []api.Op{ingest(1), tick, errs, ingest(2), tick, tick, {Kind: api.OPolicy, Policy: api.Rule{Kind: api.RAll}}, ingest(3), tick, compact}
	for i, o := range l {
		done(t, k, o)
		want, _ = model.Step(config(), want, o)
		if !state.Same(k.State(), want) {
			t.Fatalf("%d: %v, not %v", i, k.State(), want)
		}
		if got := found(d, 0); fmt.Sprint(got) != fmt.Sprint(l[:i+1]) {
			t.Fatalf("%d: %v", i, got)
		}
		for _, b := range want.Blocks {
			if got, ok := shelf.Load(d, b); !ok || fmt.Sprint(got) != fmt.Sprint(b) {
				t.Fatalf("%d: block %d: %v", i, b.Number, got)
			}
		}
	}
	if names(d) != "b0 b1 b2 j0" {
		t.Error(names(d))
	}
	for _, f := range d.Files() {
		if f.Sure != len(f.Data) {
			t.Errorf("%s is not sure", f.Name)
		}
	}
}

func TestDoRefusesP2502(t *testing.T) {
	k, d := fresh(1 << 20)
	for i, x := range []struct {
		o    api.Op
		want api.Errno
	}{
		{api.Op{}, api.ErrArg}, {api.Op{Kind: api.OTick, N: -1}, api.ErrArg}, {api.Op{Kind: api.OIngest}, api.ErrArg}, {compact, api.ErrNone},
	} {
		if err := k.Do(x.o); err != x.want || names(d) != "" || k.Down() {
			t.Errorf("%d: %d", i, err)
		}
	}
	if k, _ := fresh(0); k.Do(compact) != api.ErrNone {
		t.Error("the step's error ahead of the room's")
	}
}

func TestDoNeedsRoomP2502(t *testing.T) {
	record := len(frame.Bytes(keeper.Op(ingest(1))))
	k, d := fresh(record - 1)
	if err := k.Do(ingest(1)); err != api.ErrFull || names(d) != "" || k.Down() || !state.Same(k.State(), model.First(config())) {
		t.Errorf("one byte less: %d", err)
	}
	k, _ = fresh(record)
	done(t, k, ingest(1))
	next, _ := model.Step(config(), k.State(), tick)
	need := record + len(frame.Bytes(keeper.Op(tick))) + block.Size(next.Blocks[0])
	k, d = fresh(need - 1)
	done(t, k, ingest(1))
	before := k.State()
	if err := k.Do(tick); err != api.ErrFull || !state.Same(k.State(), before) || names(d) != "j0" || d.Used() != record {
		t.Errorf("one byte less for the block: %d", err)
	}
	k, d = fresh(need)
	done(t, k, ingest(1), tick)
	if names(d) != "b0 j0" || d.Used() != need {
		t.Error(names(d))
	}
}

func TestDoNeedsRoomForWhatIsJoinedP2502(t *testing.T) {
	k, d := fresh(1 << 20)
	done(t, k, ingest(1), tick, ingest(2), tick)
	used := d.Used()
	next, _ := model.Step(config(), k.State(), compact)
	need := len(frame.Bytes(keeper.Op(compact))) + block.Size(next.Blocks[0])
	for _, less := range []int{1, 0} {
		k, _ := fresh(used + need - less)
		done(t, k, ingest(1), tick, ingest(2), tick)
		if err := k.Do(compact); (err == api.OK) != (less == 0) || less > 0 && err != api.ErrFull {
			t.Errorf("%d less: %d", less, err)
		}
	}
}

func TestDoOnADeadDeviceP2502(t *testing.T) {
	for n := range 5 {
		k, d := fresh(1 << 20)
		done(t, k, ingest(1))
		before := k.State()
		d.Fuse(n)
		if err := k.Do(tick); err != api.ErrDown || !k.Down() || !state.Same(k.State(), before) {
			t.Errorf("%d: %d", n, err)
		}
		d.Fuse(-1)
		if k.Do(errs) != api.ErrDown || k.Do(api.Op{}) != api.ErrDown || k.Save() != api.ErrDown || !k.Down() {
			t.Errorf("%d: it is not down", n)
		}
	}
	k, d := fresh(1 << 20)
	done(t, k, ingest(1))
	d.Fuse(5)
	done(t, k, tick)
	if names(d) != "b0 j0" || k.Down() {
		t.Error(names(d))
	}
}

func TestSaveP2502(t *testing.T) {
	k, d := fresh(1 << 20)
	if err := k.Save(); err != api.OK || names(d) != "m s0" {
		t.Fatalf("of the first state: %d %s", err, names(d))
	}
	if b, _ := d.Read("m"); !bytes.Equal(b, keeper.Mark(0, 0)) {
		t.Errorf("%v", b)
	}
	done(t, k, ingest(1), tick, ingest(2), tick)
	if err := k.Save(); err != api.OK || names(d) != "b0 b1 m s1" {
		t.Fatalf("again: %d %s", err, names(d))
	}
	if b, _ := d.Read("m"); !bytes.Equal(b, keeper.Mark(1, 1)) {
		t.Errorf("%v", b)
	}
	if b, _ := d.Read("s1"); !bytes.Equal(b, state.Bytes(k.State())) {
		t.Errorf("%v", b)
	}
	done(t, k, compact, tick)
	if names(d) != "b0 b1 b2 j1 m s1" {
		t.Error(names(d))
	}
	for _, odd := range []string{"b", "b00", "b+7", "b7x", "x9", "b99999999999999999999", "a"} {
		d.Append(odd, nil)
	}
	d.Append("b5", nil)
	if err := k.Save(); err != api.OK || names(d) != "a b b+7 b00 b2 b7x b99999999999999999999 m s2 x9" {
		t.Errorf("files of blocks go: %d %s", err, names(d))
	}
	if b, _ := d.Read("m"); !bytes.Equal(b, keeper.Mark(2, 2)) {
		t.Errorf("%v", b)
	}
	d.Delete("s2")
	if err := k.Save(); err != api.OK || k.Down() {
		t.Errorf("the snapshot ahead is not there: %d", err)
	}
	for _, f := range d.Files() {
		if f.Name[0] == 's' && (f.Name != "s3" || f.Sure != len(f.Data)) {
			t.Errorf("%v", f)
		}
	}
}

func TestSaveNeedsRoomP2502(t *testing.T) {
	k, d := fresh(1 << 20)
	done(t, k, ingest(1))
	need := d.Used() + len(state.Bytes(k.State())) + len(keeper.Mark(0, 1))
	for _, less := range []int{1, 0} {
		k, d := fresh(need - less)
		done(t, k, ingest(1))
		err := k.Save()
		if less == 0 && (err != api.OK || names(d) != "m s0") {
			t.Errorf("just enough: %d %s", err, names(d))
		}
		if less == 1 && (err != api.ErrFull || names(d) != "j0" || k.Down()) {
			t.Errorf("one byte less: %d %s", err, names(d))
		}
	}
}

func TestSaveNeedsRoomForTheNextSegmentsNumberP2502(t *testing.T) {
	d := device.New(1 << 20)
	j, _ := journal.Open(d, 127)
	k := keeper.New(config(), d, j, model.First(config()), 3)
	done(t, k, ingest(1))
	need := d.Used() + len(state.Bytes(k.State())) + len(keeper.Mark(4, 128))
	d = device.New(need - 1)
	j, _ = journal.Open(d, 127)
	k = keeper.New(config(), d, j, model.First(config()), 3)
	done(t, k, ingest(1))
	if err := k.Save(); err != api.ErrFull || names(d) != "j127" || j.At() != 127 {
		t.Errorf("%d %s", err, names(d))
	}
	d = device.New(len(state.Bytes(model.First(config()))) + len(keeper.Mark(127, 0)))
	j, _ = journal.Open(d, 0)
	k = keeper.New(config(), d, j, model.First(config()), 126)
	if err := k.Save(); err != api.OK || names(d) != "m s127" {
		t.Errorf("the last number of one byte: %d %s", err, names(d))
	}
}

func TestSaveOnADeadDeviceP2502(t *testing.T) {
	count := 0
	for n := 0; ; n++ {
		k, d := fresh(1 << 20)
		done(t, k, ingest(1), tick, ingest(2), tick)
		k.Save()
		done(t, k, compact)
		before := k.State()
		d.Fuse(n)
		err := k.Save()
		if err == api.OK {
			count = n
			break
		}
		if err != api.ErrDown || !k.Down() || !state.Same(k.State(), before) {
			t.Fatalf("%d: %d", n, err)
		}
		d.Fuse(-1)
		if k.Save() != api.ErrDown || k.Do(tick) != api.ErrDown {
			t.Fatalf("%d: it is not down", n)
		}
	}
	if count != 3+3+1+1+2 {
		t.Errorf("%d calls", count)
	}
}

func TestNilP2503(t *testing.T) {
	k := (*keeper.Keeper)(nil)
	if k.Do(tick) != api.ErrDown || k.Save() != api.ErrDown || !k.Down() || !state.Same(k.State(), api.State{}) {
		t.Error("a nil one")
	}
	zero := new(keeper.Keeper)
	if zero.Do(tick) != api.ErrArg || zero.Save() != api.ErrFull || !state.Same(zero.State(), api.State{}) {
		t.Error("a zero one")
	}
}

func TestNewMemoryP2503(t *testing.T) {
	k, _ := fresh(1 << 20)
	o := ingest(1)
	o.Spans[0].Attrs = []api.Attr{{Key: "k"}}
	done(t, k, o)
	before := fmt.Sprint(k.State())
	clear(o.Spans[0].Attrs)
	clear(o.Spans)
	s := k.State()
	clear(s.Open[0].Spans)
	clear(s.Open)
	clear(s.Rows)
	if fmt.Sprint(k.State()) != before {
		t.Error("memory is shared")
	}
	var all sync.WaitGroup
	for range 8 {
		all.Go(func() { k.Down() })
	}
	all.Wait()
}
