package journal_test

import (
	"bytes"
	"fmt"
	"math"
	"strings"
	"testing"

	"gleaning/api"
	"gleaning/device"
	"gleaning/frame"
	"gleaning/journal"
)

// with is a device that has these files, each of records of these texts, by name and text.
func with(files ...string) *device.Device {
	d := device.New(1 << 20)
	for i := 0; i < len(files); i += 2 {
		d.Append(files[i], nil)
		for _, p := range strings.Fields(files[i+1]) {
			d.Append(files[i], frame.Bytes([]byte(p)))
		}
		d.Sync(files[i])
	}
	return d
}

// names are the names of a device's files.
func names(d *device.Device) string {
	out := []string(nil)
	for _, f := range d.Files() {
		out = append(out, f.Name)
	}
	return strings.Join(out, " ")
}

// opened holds what Open tells against what it is to tell.
func opened(t *testing.T, d *device.Device, first int, want string, at int) *journal.Journal {
	t.Helper()
	j, l := journal.Open(d, first)
	if got := string(bytes.Join(l, []byte(" "))); got != want || j.At() != at {
		t.Errorf("from %d: %q, at %d", first, got, j.At())
	}
	return j
}

// ok asks for no error.
func ok(t *testing.T, what string, err api.Errno) {
	t.Helper()
	if err != api.OK {
		t.Errorf("%s: %d", what, err)
	}
}

func TestName(t *testing.T) {
	for n, want := range map[int]string{0: "j0", 12: "j12", -1: "", math.MinInt: "", math.MaxInt: "j9223372036854775807"} {
		if got := journal.Name(n); got != want {
			t.Errorf("%d: %q", n, got)
		}
	}
}

func TestOpenP701(t *testing.T) {
	opened(t, device.New(100), 0, "", 0)
	opened(t, device.New(100), 7, "", 7)
	opened(t, device.New(100), -7, "", 0)
	opened(t, device.New(100), math.MaxInt, "", api.MaxEpochs)
	d := with("j0", "a b", "j1", "", "j2", "c", "j4", "d")
	opened(t, d, 0, "a b c", 2)
	opened(t, d, 1, "c", 2)
	opened(t, d, 3, "", 3)
	opened(t, d, 4, "d", 4)
	opened(t, d, math.MinInt, "a b c", 2)
	opened(t, with("j1099511627776", "x"), math.MaxInt, "x", api.MaxEpochs)
}

func TestOpenGoesOnBehindATornOneP701(t *testing.T) {
	d := with("j0", "a", "j1", "b")
	d.Append("j0", []byte{9, 9})
	j := opened(t, d, 0, "a b", 1)
	ok(t, "Append", j.Append([]byte("c")))
	opened(t, d, 0, "a b c", 1)
	d.Append("j1", []byte{9})
	j = opened(t, d, 0, "a b c", 2)
	ok(t, "Append", j.Append([]byte("d")))
	opened(t, d, 0, "a b c d", 2)
}

func TestOpenGoesOnBehindAFullOneP701(t *testing.T) {
	record := strings.Repeat("x", api.MaxSeg-6)
	d := with("j0", record+" y")
	opened(t, d, 0, record+" y", 1)
	d = with("j0", record[:len(record)-1])
	if b, _ := d.Read("j0"); len(b) != api.MaxSeg-1 {
		t.Fatalf("%d bytes", len(b))
	}
	opened(t, d, 0, record[:len(record)-1], 0)
	d = with("j0", record)
	if b, _ := d.Read("j0"); len(b) != api.MaxSeg {
		t.Fatalf("%d bytes", len(b))
	}
	opened(t, d, 0, record, 1)
}

func TestAppendP702(t *testing.T) {
	d := device.New(1 << 20)
	j, _ := journal.Open(d, 3)
	all := []byte(nil)
	at := 3
	for i := range 300 {
		p := bytes.Repeat([]byte{byte(i)}, i%50)
		ok(t, "Append", j.Append(p))
		all = append(all, frame.Bytes(p)...)
		if b, _ := d.Read(journal.Name(at)); !bytes.Equal(b, all) {
			t.Fatalf("%d: %v, not %v", i, b, all)
		}
		if len(all) >= api.MaxSeg {
			at++
			all = nil
		}
		if j.At() != at {
			t.Fatalf("%d: at %d, not %d", i, j.At(), at)
		}
	}
	for _, f := range d.Files() {
		if f.Sure != len(f.Data) {
			t.Errorf("%s: not sure", f.Name)
		}
	}
	d.Crash()
	if j, l := journal.Open(d, 3); len(l) != 300 || j.At() != at {
		t.Errorf("%d records, at %d", len(l), j.At())
	}
}

func TestAppendGoesOnExactlyAtMaxSegP702(t *testing.T) {
	for size, at := range map[int]int{api.MaxSeg - 7: 0, api.MaxSeg - 6: 1, api.MaxSeg - 5: 1} {
		j, _ := journal.Open(device.New(1<<20), 0)
		ok(t, "Append", j.Append(make([]byte, size)))
		if j.At() != at {
			t.Errorf("%d: at %d", size, j.At())
		}
	}
}

func TestAppendErrsP702(t *testing.T) {
	d := device.New(20)
	j, _ := journal.Open(d, 0)
	if err := j.Append(make([]byte, 16)); err != api.ErrFull || len(d.Files()) != 0 || j.At() != 0 {
		t.Errorf("full: %d", err)
	}
	d = device.New(1 << 20)
	j, _ = journal.Open(d, 0)
	d.Fuse(0)
	if err := j.Append(nil); err != api.ErrDown || len(d.Files()) != 0 {
		t.Errorf("dead: %d", err)
	}
	d.Fuse(1)
	if err := j.Append(make([]byte, 3000)); err != api.ErrDown || j.At() != 0 || d.Files()[0].Sure != 0 || d.Used() != 3006 {
		t.Errorf("dead behind the first: %d, at %d", err, j.At())
	}
}

func TestCutP702(t *testing.T) {
	d := device.New(1 << 20)
	j, _ := journal.Open(d, 2)
	if j.Cut() != 2 || j.Cut() != 2 || j.At() != 2 {
		t.Error("no file yet")
	}
	ok(t, "Append", j.Append([]byte("a")))
	if j.Next() != 3 || j.At() != 2 {
		t.Error("Next turns something")
	}
	if j.Cut() != 3 || j.Cut() != 3 || j.At() != 3 {
		t.Error("Cut")
	}
	ok(t, "Append", j.Append([]byte("b")))
	opened(t, d, 2, "a b", 3)
	opened(t, d, 3, "b", 3)
}

func TestDropP702(t *testing.T) {
	files := []string{"j0", "a", "j1", "b", "j2", "c", "j3", "d", "k", "e"}
	cases := []struct {
		open, first int
		want        string
	}{
		{0, 0, "j0 j1 j2 j3 k"},
		{0, -5, "j0 j1 j2 j3 k"},
		{0, math.MinInt, "j0 j1 j2 j3 k"},
		{0, 1, "j1 j2 j3 k"},
		{0, 3, "j3 k"},
		{0, 4, "j3 k"},
		{0, math.MaxInt, "j3 k"},
		{2, 3, "j0 j1 j3 k"},
		{2, 1, "j0 j1 j2 j3 k"},
	}
	for _, c := range cases {
		d := with(files...)
		j, _ := journal.Open(d, c.open)
		ok(t, "Drop", j.Drop(c.first))
		if got := names(d); got != c.want || j.At() != 3 {
			t.Errorf("%d to %d: %s", c.open, c.first, got)
		}
	}
}

func TestDropGoesOnP702(t *testing.T) {
	d := with("j0", "a", "j1", "b", "j2", "c", "j3", "d")
	j, _ := journal.Open(d, 0)
	d.Delete("j1")
	ok(t, "one is not there", j.Drop(2))
	d.Append("j0", []byte("other"))
	ok(t, "again", j.Drop(3))
	if got := names(d); got != "j0 j3" {
		t.Errorf("what it was dropped to is forgotten: %s", got)
	}
}

func TestDropErrsP702(t *testing.T) {
	d := with("j0", "a", "j1", "b", "j2", "c", "j3", "d")
	j, _ := journal.Open(d, 0)
	d.Fuse(2)
	if err := j.Drop(3); err != api.ErrDown || names(d) != "j2 j3" {
		t.Errorf("%d: %s", err, names(d))
	}
	d.Fuse(-1)
	ok(t, "again", j.Drop(3))
	if names(d) != "j3" {
		t.Error(names(d))
	}
}

func TestNilP703(t *testing.T) {
	j, l := journal.Open(nil, 3)
	if j != nil || l != nil {
		t.Error("a nil device")
	}
	if j.Append(nil) != api.ErrArg || j.Cut() != 0 || j.At() != 0 || j.Drop(3) != api.ErrArg {
		t.Error("a nil one")
	}
	zero := new(journal.Journal)
	if zero.Append(nil) != api.ErrArg || zero.Cut() != 0 || zero.Drop(1) != api.OK {
		t.Error("a zero one")
	}
}

func TestNewMemoryP703(t *testing.T) {
	d := device.New(1 << 20)
	j, _ := journal.Open(d, 0)
	p := []byte("abc")
	ok(t, "Append", j.Append(p))
	clear(p)
	_, l := journal.Open(d, 0)
	clear(l[0])
	if _, l = journal.Open(d, 0); fmt.Sprintf("%s", l) != "[abc]" {
		t.Errorf("%q", l)
	}
}
