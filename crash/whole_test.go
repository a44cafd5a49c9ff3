package crash_test

import (
	"fmt"
	"testing"

	"gleaning/api"
	"gleaning/crash"
	"gleaning/device"
	"gleaning/keeper"
	"gleaning/model"
	"gleaning/sample"
	"gleaning/state"
)

// picks are what a crash leaves of the files: nothing, all, or something.
func picks(c *sample.Chance) []int {
	out := []int(nil)
	kind := c.Next(3)
	for range 12 {
		switch kind {
		case 1:
			out = append(out, 1<<30)
		case 2:
			out = append(out, c.Next(60))
		}
	}
	return out
}

// script is operations; one of no kind is to save.
func script(c *sample.Chance, n int) []api.Op {
	out := []api.Op(nil)
	for range n {
		if c.Yes(6) {
			out = append(out, api.Op{})
		} else {
			out = append(out, c.Op())
		}
	}
	return out
}

// act does an operation, or saves.
func act(k *keeper.Keeper, o api.Op) api.Errno {
	if o.Kind == 0 {
		return k.Save()
	}
	return k.Do(o)
}

// after is the state behind an operation, if it is done.
func after(c api.Config, s api.State, o api.Op) api.State {
	next, err := model.Step(c, s, o)
	if err != api.OK {
		return s
	}
	return next
}

// again crashes within Recover, wherever, and recovers: it is to be that state.
func again(t *testing.T, c *sample.Chance, cfg api.Config, d *device.Device, want api.State) *keeper.Keeper {
	t.Helper()
	for n := 0; ; n++ {
		d.Fuse(n)
		k, err := crash.Recover(cfg, d)
		if err == api.OK {
			d.Fuse(-1)
			if !state.Same(k.State(), want) {
				t.Fatalf("behind %d: %v, not %v", n, k.State(), want)
			}
			return k
		}
		if err != api.ErrDown || k != nil {
			t.Fatalf("behind %d: %d", n, err)
		}
		d.Crash(picks(c)...)
	}
}

func TestAllStandsBehindACrashP2602(t *testing.T) {
	for seed := range 60 {
		c := sample.Chance(2600 + seed)
		cfg := c.Config()
		d := device.New(1 << 20)
		k, err := crash.Recover(cfg, d)
		if err != api.OK {
			t.Fatal(err)
		}
		done := k.State()
		for i, o := range script(&c, 60) {
			fuse := c.Next(12) - 1
			if c.Yes(2) {
				fuse = -1
			}
			d.Fuse(fuse)
			err := act(k, o)
			next := after(cfg, done, o)
			if err == api.OK {
				done = next
			}
			if !state.Same(k.State(), done) {
				t.Fatalf("%d %d: not the state of what was answered", seed, i)
			}
			if err != api.ErrDown && !c.Yes(4) {
				continue
			}
			d.Crash(picks(&c)...)
			back, first := crash.Recover(cfg, d)
			if first != api.OK {
				t.Fatalf("%d %d: %d", seed, i, first)
			}
			if got := back.State(); err == api.ErrDown && state.Same(got, next) {
				done = next
			}
			if !state.Same(back.State(), done) {
				t.Fatalf("%d %d: %v, not %v", seed, i, back.State(), done)
			}
			k = again(t, &c, cfg, d, done)
		}
	}
}

func TestEachCallOfOneOperationP2602(t *testing.T) {
	for _, last := range []api.Op{ingest(4), tick, compact, {}} {
		for n := 0; n < 14; n++ {
			for pick := range 60 {
				d := device.New(1 << 20)
				k := recovered(t, d)
				done(t, k, ingest(1), tick, ingest(2), tick)
				saved(t, k)
				done(t, k, ingest(3))
				before := k.State()
				d.Fuse(n)
				err := act(k, last)
				d.Crash(pick, pick, pick, pick, pick, pick)
				got := recovered(t, d).State()
				next := after(config(), before, last)
				if !state.Same(got, next) && (err == api.OK || !state.Same(got, before)) {
					t.Fatalf("%v, %d calls, %d picked: %v", last.Kind, n, pick, got)
				}
			}
		}
	}
}

func TestToRecoverAgainIsTheSameP2602(t *testing.T) {
	c := sample.Chance(77)
	cfg := c.Config()
	d := device.New(1 << 20)
	k, _ := crash.Recover(cfg, d)
	for _, o := range script(&c, 80) {
		act(k, o)
	}
	want := k.State()
	for range 3 {
		k, err := crash.Recover(cfg, d)
		if err != api.OK || !state.Same(k.State(), want) {
			t.Fatalf("%d: %v, not %v", err, k.State(), want)
		}
		files := fmt.Sprint(d.Files())
		if _, err := crash.Recover(cfg, d); err != api.OK || fmt.Sprint(d.Files()) != files {
			t.Fatalf("%d: files are turned", err)
		}
	}
}
