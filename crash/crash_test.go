package crash_test

import (
	"fmt"
	"strings"
	"testing"

	"gleaning/api"
	"gleaning/block"
	"gleaning/check"
	"gleaning/crash"
	"gleaning/device"
	"gleaning/frame"
	"gleaning/ints"
	"gleaning/journal"
	"gleaning/keeper"
	"gleaning/model"
	"gleaning/shelf"
	"gleaning/state"
)

// config is one that closes traces after a tick.
func config() api.Config {
	return api.Config{Idle: 1, Age: 5, Most: 10, Memo: 4, Cap: 100, Keep: 100, Budget: 1 << 20, Horizon: [3]int{1 << 30, 1 << 30, 1 << 30}}
}

// ingest is an operation with a span of a trace.
func ingest(trace uint64) api.Op {
	return api.Op{Kind: api.OIngest, Spans: []api.Span{{Trace: api.Trace{Lo: trace}, Service: "s", Op: "o"}}}
}

var (
	tick    = api.Op{Kind: api.OTick, N: 60}
	compact = api.Op{Kind: api.OCompact}
)

// names are the names of a device's files.
func names(d *device.Device) string {
	out := []string(nil)
	for _, f := range d.Files() {
		out = append(out, f.Name)
	}
	return strings.Join(out, " ")
}

// recovered is the keeper of a device.
func recovered(t *testing.T, d *device.Device) *keeper.Keeper {
	t.Helper()
	k, err := crash.Recover(config(), d)
	if err != api.OK || k.Down() {
		t.Fatalf("Recover: %d", err)
	}
	return k
}

// done asks for no error.
func done(t *testing.T, k *keeper.Keeper, l ...api.Op) {
	t.Helper()
	for i, o := range l {
		if err := k.Do(o); err != api.OK {
			t.Fatalf("operation %d: %d", i, err)
		}
	}
}

// saved asks for no error.
func saved(t *testing.T, k *keeper.Keeper) {
	t.Helper()
	if err := k.Save(); err != api.OK {
		t.Fatalf("Save: %d", err)
	}
}

// refused asks for an error, and no keeper.
func refused(t *testing.T, what string, c api.Config, d *device.Device, want api.Errno) {
	t.Helper()
	if k, err := crash.Recover(c, d); err != want || k != nil {
		t.Errorf("%s: %v %d, not %d", what, k, err, want)
	}
}

func TestRecoverRefusesP2601(t *testing.T) {
	refused(t, "a nil device", config(), nil, api.ErrArg)
	refused(t, "a zero config", api.Config{}, device.New(100), api.ErrArg)
	c := config()
	c.Memo = 1001
	refused(t, "a wrong config", c, device.New(100), api.ErrArg)
}

func TestRecoverOfNothingP2601(t *testing.T) {
	d := device.New(100)
	k := recovered(t, d)
	if !state.Same(k.State(), model.First(config())) || names(d) != "" {
		t.Errorf("%v %s", k.State(), names(d))
	}
	done(t, k, ingest(1))
	saved(t, recovered(t, device.New(1000)))
}

func TestRecoverFromTheJournalP2601(t *testing.T) {
	d := device.New(1 << 20)
	k := recovered(t, d)
	done(t, k, ingest(1), tick, ingest(2), tick, compact)
	before := k.State()
	d.Crash()
	k = recovered(t, d)
	if !state.Same(k.State(), before) || names(d) != "b2 j0" {
		t.Errorf("%v %s", k.State(), names(d))
	}
	done(t, k, ingest(3), tick)
	saved(t, k)
	if names(d) != "b2 b3 m s0" {
		t.Error(names(d))
	}
}

func TestRecoverFromASnapshotP2601(t *testing.T) {
	d := device.New(1 << 20)
	k := recovered(t, d)
	done(t, k, ingest(1), tick, ingest(2), tick)
	saved(t, k)
	done(t, k, compact, ingest(3))
	before := k.State()
	for range 3 {
		d.Crash()
		k = recovered(t, d)
		if !state.Same(k.State(), before) || names(d) != "b0 b1 b2 j1 m s0" {
			t.Errorf("%v %s", k.State(), names(d))
		}
	}
	saved(t, k)
	if names(d) != "b2 m s1" {
		t.Error(names(d))
	}
	if !state.Same(recovered(t, d).State(), before) {
		t.Error("not the state that was saved")
	}
}

func TestRecoverDeletesP2601(t *testing.T) {
	d := device.New(1 << 20)
	k := recovered(t, d)
	done(t, k, ingest(1), tick, ingest(2), tick)
	saved(t, k)
	done(t, k, compact)
	before := k.State()
	for _, odd := range []string{"a", "b7", "b0.tmp", "j", "j0", "j3", "j01", "m.tmp", "s1", "s", "x"} {
		d.Append(odd, []byte("odd"))
	}
	k = recovered(t, d)
	if !state.Same(k.State(), before) || names(d) != "b0 b1 b2 j1 m s0" {
		t.Error(names(d))
	}
	d.Append("m", []byte{0})
	d.Delete("j1")
	d.Append("j0", frame.Bytes(keeper.Op(ingest(9))))
	k = recovered(t, d)
	if names(d) != "j0 m" || len(k.State().Open) != 1 {
		t.Errorf("a mark that is none: %s %v", names(d), k.State())
	}
}

func TestRecoverGoesOnBehindATornSegmentP2601(t *testing.T) {
	d := device.New(1 << 20)
	k := recovered(t, d)
	done(t, k, ingest(1))
	d.Append("j0", []byte{1, 2})
	k = recovered(t, d)
	done(t, k, ingest(2))
	if names(d) != "j0 j1" {
		t.Error(names(d))
	}
	if k = recovered(t, d); len(k.State().Open) != 2 || names(d) != "j0 j1" {
		t.Errorf("%v %s", k.State(), names(d))
	}
}

func TestRecoverWritesBlocksThatAreNoFilesP2601(t *testing.T) {
	d := device.New(1 << 20)
	k := recovered(t, d)
	done(t, k, ingest(1), tick, ingest(2), tick)
	before := k.State()
	d.Delete("b0")
	d.Delete("b1")
	recovered(t, d)
	for _, b := range before.Blocks {
		if got, ok := shelf.Load(d, b); !ok || fmt.Sprint(got) != fmt.Sprint(b) {
			t.Errorf("%d: %v", b.Number, got)
		}
	}
	for n := range 8 {
		d.Fuse(-1)
		for _, name := range []string{"b0", "b1", "b0.tmp", "b1.tmp"} {
			d.Delete(name)
		}
		d.Append("x", nil)
		d.Fuse(n)
		if n == 7 {
			recovered(t, d)
			continue
		}
		refused(t, fmt.Sprint("dead behind ", n), config(), d, api.ErrDown)
		if n == 0 && names(d) != "j0 x" || n == 1 && names(d) != "j0" {
			t.Errorf("%d: %s", n, names(d))
		}
	}
	d = device.New(100)
	d.Fuse(0)
	recovered(t, d)
}

func TestRecoverLeavesBlocksThatAreFilesP2601(t *testing.T) {
	d := device.New(1 << 20)
	k := recovered(t, d)
	done(t, k, ingest(1), tick)
	d.Fuse(0)
	recovered(t, d)
	d.Fuse(-1)
	d.Delete("b0")
	d.Append("b0", []byte("other"))
	recovered(t, d)
	if b, _ := d.Read("b0"); string(b) != "other" {
		t.Errorf("%q", b)
	}
}

func TestRecoverNeedsRoomP2601(t *testing.T) {
	d := device.New(1 << 20)
	k := recovered(t, d)
	done(t, k, ingest(1), tick)
	raw, _ := d.Read("j0")
	size := block.Size(k.State().Blocks[0])
	d = device.New(len(raw) + size - 1)
	d.Append("j0", raw)
	refused(t, "no room", config(), d, api.ErrFull)
	d = device.New(len(raw) + size)
	d.Append("j0", raw)
	recovered(t, d)
}

// file makes a device with a mark, a snapshot and records.
func file(mark, snap []byte, records ...[]byte) *device.Device {
	d := device.New(1 << 20)
	if mark != nil {
		d.Append("m", mark)
	}
	if snap != nil {
		d.Append("s3", snap)
	}
	for _, p := range records {
		d.Append("j0", frame.Bytes(p))
	}
	return d
}

func TestRecoverOfNoSuchBytesP2601(t *testing.T) {
	s := model.First(config())
	s.Now, s.Sec, s.Kept, s.Next = 5, 1, 1, 2
	good := state.Bytes(s)
	mark := keeper.Mark(3, 0)
	if got := recovered(t, file(mark, good)).State(); !state.Same(got, s) {
		t.Fatalf("what is to be turned is not right itself: %v", got)
	}
	refused(t, "no snapshot", config(), file(mark, nil), api.ErrBytes)
	refused(t, "another snapshot", config(), file(keeper.Mark(4, 0), good), api.ErrBytes)
	refused(t, "a torn snapshot", config(), file(mark, good[1:]), api.ErrBytes)
	refused(t, "a record that is no operation", config(), file(nil, nil, []byte{0}), api.ErrBytes)
	refused(t, "a record of nothing", config(), file(nil, nil, nil), api.ErrBytes)
	refused(t, "an operation that is refused", config(), file(nil, nil, keeper.Op(ingest(1)), keeper.Op(compact)), api.ErrBytes)
	s.Now = api.MaxEpochs
	refused(t, "a tick too many", config(), file(mark, state.Bytes(s), keeper.Op(tick)), api.ErrBytes)
	for i, wrong := range [][]byte{{}, mark[1:], append(mark, 0), check.Append([]byte{3}), check.Append([]byte{3, 0, 0}), check.Append(ints.Put([]byte{3}, 1<<63))} {
		d := file(wrong, good, keeper.Op(ingest(1)))
		if got := recovered(t, d).State(); got.Now != 0 || len(got.Open) != 1 || names(d) != "j0 m" {
			t.Errorf("%d: a mark that is none: %v %s", i, got, names(d))
		}
	}
}

func TestRecoverOfBlocksThatAreNotThereP2601(t *testing.T) {
	s := model.First(config())
	b := block.Make(1, 2, 3, []api.Episode{{Spans: ingest(0).Spans}})
	s.Blocks = []api.Block{b}
	mark, snap := keeper.Mark(3, 0), state.Bytes(s)
	d := file(mark, snap)
	d.Append("b1", block.Bytes(b))
	if got := recovered(t, d).State(); !state.Same(got, s) {
		t.Errorf("%v", got)
	}
	refused(t, "no block", config(), file(mark, snap), api.ErrBytes)
	for i, other := range []api.Block{block.Make(0, 2, 3, nil), block.Make(1, 1, 3, nil), block.Make(1, 2, 4, nil), {Number: -1}} {
		d := file(mark, snap)
		d.Append("b1", block.Bytes(other))
		refused(t, fmt.Sprint(i), config(), d, api.ErrBytes)
	}
}

func TestRecoverFromASegmentP2601(t *testing.T) {
	d := file(keeper.Mark(3, 5), state.Bytes(model.First(config())), keeper.Op(ingest(1)))
	d.Append(journal.Name(5), frame.Bytes(keeper.Op(ingest(2))))
	d.Append(journal.Name(6), frame.Bytes(keeper.Op(ingest(3))))
	d.Append(journal.Name(8), frame.Bytes(keeper.Op(ingest(4))))
	if got := recovered(t, d).State(); len(got.Open) != 2 || names(d) != "j5 j6 m s3" {
		t.Errorf("%v %s", got, names(d))
	}
	d = file(keeper.Mark(3, 1<<50), state.Bytes(model.First(config())))
	d.Append(journal.Name(api.MaxEpochs), frame.Bytes(keeper.Op(ingest(2))))
	if got := recovered(t, d).State(); len(got.Open) != 1 || names(d) != "j1099511627776 m s3" {
		t.Errorf("%v %s", got, names(d))
	}
}
