package device_test

import (
	"fmt"
	"math"
	"slices"
	"sync"
	"testing"

	"gleaning/api"
	"gleaning/device"
	"gleaning/sample"
)

// want holds an error against another one.
func want(t *testing.T, what string, got, want api.Errno) {
	t.Helper()
	if got != want {
		t.Errorf("%s: %d, not %d", what, got, want)
	}
}

// told are the files of a device, as a text.
func told(d *device.Device) string {
	out := ""
	for _, f := range d.Files() {
		out += fmt.Sprintf("%s=%s/%d ", f.Name, f.Data, f.Sure)
	}
	return out
}

// hold holds the files of a device against a text.
func hold(t *testing.T, what string, d *device.Device, want string) {
	t.Helper()
	if got := told(d); got != want {
		t.Errorf("%s: %q, not %q", what, got, want)
	}
}

func TestNewP601(t *testing.T) {
	for room, want := range map[int]int{0: 0, 7: 7, -1: 0, math.MinInt: 0, math.MaxInt: math.MaxInt} {
		d := device.New(room)
		if d.Room() != want || d.Used() != 0 || len(d.Files()) != 0 {
			t.Errorf("room for %d: %d, used %d", room, d.Room(), d.Used())
		}
	}
}

func TestAppendP601(t *testing.T) {
	d := device.New(6)
	want(t, "no name", d.Append("", []byte("abcdefghi")), api.ErrArg)
	want(t, "too many", d.Append("a", []byte("abcdefg")), api.ErrFull)
	hold(t, "nothing was made", d, "")
	want(t, "a", d.Append("a", []byte("abc")), api.OK)
	want(t, "b", d.Append("b", nil), api.OK)
	want(t, "a again", d.Append("a", []byte("d")), api.OK)
	hold(t, "two files", d, "a=abcd/0 b=/0 ")
	want(t, "too many of all", d.Append("b", []byte("xyz")), api.ErrFull)
	want(t, "the last room", d.Append("b", []byte("xy")), api.OK)
	want(t, "full", d.Append("c", []byte("x")), api.ErrFull)
	want(t, "nothing fits", d.Append("c", nil), api.OK)
	hold(t, "full", d, "a=abcd/0 b=xy/0 c=/0 ")
	if d.Used() != 6 {
		t.Errorf("used: %d", d.Used())
	}
	want(t, "room for none", device.New(-5).Append("a", []byte("x")), api.ErrFull)
}

func TestSyncP601(t *testing.T) {
	d := device.New(100)
	want(t, "no such file", d.Sync("a"), api.ErrNone)
	want(t, "no name", d.Sync(""), api.ErrNone)
	d.Append("a", []byte("abc"))
	d.Append("b", []byte("b"))
	want(t, "a", d.Sync("a"), api.OK)
	d.Append("a", []byte("de"))
	hold(t, "some are sure", d, "a=abcde/3 b=b/0 ")
}

func TestRenameP601(t *testing.T) {
	d := device.New(100)
	want(t, "no such file", d.Rename("a", ""), api.ErrNone)
	d.Append("b", []byte("abc"))
	d.Sync("b")
	d.Append("b", []byte("d"))
	want(t, "to no name", d.Rename("b", ""), api.ErrArg)
	want(t, "to itself", d.Rename("b", "b"), api.OK)
	hold(t, "as it was", d, "b=abcd/3 ")
	want(t, "behind", d.Rename("b", "z"), api.OK)
	hold(t, "behind", d, "z=abcd/3 ")
	d.Append("a", []byte("xy"))
	d.Append("k", []byte("k"))
	want(t, "instead of another", d.Rename("z", "a"), api.OK)
	hold(t, "instead of another", d, "a=abcd/3 k=k/0 ")
	want(t, "forwards", d.Rename("a", "k"), api.OK)
	hold(t, "forwards", d, "k=abcd/3 ")
	if d.Used() != 4 {
		t.Errorf("used: %d", d.Used())
	}
}

func TestDeleteP601(t *testing.T) {
	d := device.New(3)
	want(t, "no such file", d.Delete("a"), api.ErrNone)
	d.Append("a", []byte("abc"))
	want(t, "full", d.Append("b", []byte("x")), api.ErrFull)
	want(t, "a", d.Delete("a"), api.OK)
	want(t, "again", d.Delete("a"), api.ErrNone)
	want(t, "there is room again", d.Append("b", []byte("xyz")), api.OK)
	hold(t, "one file", d, "b=xyz/0 ")
	if d.Used() != 3 {
		t.Errorf("used: %d", d.Used())
	}
}

func TestFuseP601(t *testing.T) {
	for n := range 5 {
		d := device.New(10)
		d.Fuse(n)
		for i, call := range []func() api.Errno{
			func() api.Errno { return d.Append("a", []byte("abc")) },
			func() api.Errno { return d.Sync("a") },
			func() api.Errno { return d.Rename("a", "b") },
			func() api.Errno { return d.Delete("b") },
		} {
			if i < n {
				want(t, "no call to be counted", d.Append("", nil), api.ErrArg)
				want(t, "no call to be counted", d.Append("x", make([]byte, 11)), api.ErrFull)
				want(t, "no call to be counted", d.Sync("x"), api.ErrNone)
				want(t, "no call to be counted", d.Rename("x", "y"), api.ErrNone)
				want(t, "no call to be counted", d.Delete("x"), api.ErrNone)
				want(t, fmt.Sprintf("fuse %d, call %d", n, i), call(), api.OK)
				continue
			}
			before := told(d)
			want(t, fmt.Sprintf("fuse %d, call %d", n, i), call(), api.ErrDown)
			hold(t, "a dead device", d, before)
		}
	}
}

func TestDeadP601(t *testing.T) {
	d := device.New(10)
	d.Append("a", []byte("ab"))
	d.Fuse(0)
	want(t, "Append", d.Append("", make([]byte, 11)), api.ErrDown)
	want(t, "Sync", d.Sync("x"), api.ErrDown)
	want(t, "Rename", d.Rename("x", ""), api.ErrDown)
	want(t, "Delete", d.Delete("x"), api.ErrDown)
	if b, ok := d.Read("a"); string(b) != "ab" || !ok || d.Used() != 2 || d.Room() != 10 {
		t.Error("a dead device is read")
	}
	d.Fuse(1)
	want(t, "alive", d.Sync("a"), api.OK)
	want(t, "dead again", d.Sync("a"), api.ErrDown)
	for _, n := range []int{-1, math.MinInt} {
		d.Fuse(0)
		d.Fuse(n)
		for range 20 {
			want(t, "never dead", d.Sync("a"), api.OK)
		}
	}
	d.Fuse(0)
	d.Crash()
	want(t, "behind a crash", d.Sync("a"), api.OK)
	d.Fuse(2)
	d.Crash()
	for range 5 {
		want(t, "behind a crash no fuse is left", d.Sync("a"), api.OK)
	}
}

func TestCrashP601(t *testing.T) {
	cases := []struct {
		picks []int
		want  string
	}{
		{nil, "a=/0 b=bb/2 c=cc/2 d=/0 "},
		{[]int{1}, "a=a/1 b=bb/2 c=cc/2 d=/0 "},
		{[]int{3, 9, 2, 9}, "a=aaa/3 b=bb/2 c=cc++/4 d=/0 "},
		{[]int{4, 0, math.MaxInt, 0}, "a=aaa/3 b=bb/2 c=cc+++/5 d=/0 "},
		{[]int{-1, -1, math.MinInt, -1}, "a=/0 b=bb/2 c=cc/2 d=/0 "},
		{[]int{0, 0, 1, 0, 5, 5}, "a=/0 b=bb/2 c=cc+/3 d=/0 "},
	}
	for _, c := range cases {
		d := device.New(100)
		d.Append("c", []byte("cc"))
		d.Append("b", []byte("bb"))
		d.Sync("b")
		d.Sync("c")
		d.Append("c", []byte("+++"))
		d.Append("a", []byte("aaa"))
		d.Append("d", nil)
		d.Crash(c.picks...)
		hold(t, fmt.Sprint(c.picks), d, c.want)
		used := 0
		for _, f := range d.Files() {
			used += len(f.Data)
		}
		if d.Used() != used {
			t.Errorf("%v: used %d, not %d", c.picks, d.Used(), used)
		}
		d.Append("b", []byte("x"))
		d.Crash()
		hold(t, fmt.Sprint(c.picks, " again"), d, c.want)
	}
}

func TestReadP602(t *testing.T) {
	d := device.New(10)
	if b, ok := d.Read("a"); ok || len(b) != 0 {
		t.Error("no such file")
	}
	d.Append("a", []byte("abc"))
	d.Append("empty", nil)
	if b, ok := d.Read("empty"); !ok || len(b) != 0 {
		t.Error("an empty file")
	}
	b, ok := d.Read("a")
	if !ok || string(b) != "abc" {
		t.Errorf("%q %v", b, ok)
	}
	clear(b)
	clear(d.Files()[0].Data)
	hold(t, "what was answered is turned", d, "a=abc/0 empty=/0 ")
}

func TestFilesStandByNameP602(t *testing.T) {
	c := sample.Chance(6)
	d := device.New(1000)
	for range 500 {
		name, other := c.Name('n')+c.Name('m'), c.Name('n')+c.Name('m')
		switch c.Next(4) {
		case 0:
			d.Append(name, c.Bytes(c.Next(9)))
		case 1:
			d.Sync(name)
		case 2:
			d.Rename(name, other)
		case 3:
			d.Delete(name)
		}
		used := 0
		files := d.Files()
		for _, f := range files {
			used += len(f.Data)
		}
		if used != d.Used() || !slices.IsSortedFunc(files, func(a, b api.File) int { return slices.Compare([]byte(a.Name), []byte(b.Name)) }) {
			t.Fatalf("used %d, not %d: %v", d.Used(), used, files)
		}
	}
}

func TestNilP602(t *testing.T) {
	d := (*device.Device)(nil)
	want(t, "Append", d.Append("a", nil), api.ErrArg)
	want(t, "Sync", d.Sync("a"), api.ErrArg)
	want(t, "Rename", d.Rename("a", "b"), api.ErrArg)
	want(t, "Delete", d.Delete("a"), api.ErrArg)
	d.Fuse(3)
	d.Crash(1, 2)
	if b, ok := d.Read("a"); b != nil || ok || d.Used() != 0 || d.Room() != 0 || d.Files() != nil {
		t.Error("a nil one answers something")
	}
	zero := new(device.Device)
	want(t, "a zero one", zero.Append("a", nil), api.OK)
	want(t, "a zero one", zero.Append("a", []byte{1}), api.ErrFull)
}

func TestTwoHaveNothingInCommonP602(t *testing.T) {
	one, two := device.New(10), device.New(10)
	b := []byte("abc")
	one.Append("a", b)
	clear(b)
	one.Fuse(0)
	want(t, "the other is not dead", two.Append("a", b), api.OK)
	hold(t, "the one", one, "a=abc/0 ")
	var all sync.WaitGroup
	for range 8 {
		all.Go(func() { _ = one.Used() })
	}
	all.Wait()
}
