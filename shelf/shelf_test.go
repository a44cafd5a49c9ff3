package shelf_test

import (
	"fmt"
	"math"
	"testing"

	"gleaning/api"
	"gleaning/block"
	"gleaning/device"
	"gleaning/sample"
	"gleaning/shelf"
)

// told are the files of a device, as a text.
func told(d *device.Device) string {
	out := ""
	for _, f := range d.Files() {
		out += fmt.Sprintf("%s=%s/%d ", f.Name, f.Data, f.Sure)
	}
	return out
}

// hold holds an error and the files of a device against what they are to be.
func hold(t *testing.T, what string, err, wantErr api.Errno, d *device.Device, want string) {
	t.Helper()
	if got := told(d); err != wantErr || got != want {
		t.Errorf("%s: %d %q, not %d %q", what, err, got, wantErr, want)
	}
}

func TestPutP2401(t *testing.T) {
	d := device.New(20)
	hold(t, "a new one", shelf.Put(d, "a", []byte("one")), api.OK, d, "a=one/3 ")
	hold(t, "again", shelf.Put(d, "a", []byte("other")), api.OK, d, "a=other/5 ")
	hold(t, "nothing", shelf.Put(d, "b", nil), api.OK, d, "a=other/5 b=/0 ")
	d.Append("a.tmp", []byte("torn"))
	hold(t, "a torn one is there", shelf.Put(d, "a", []byte("new")), api.OK, d, "a=new/3 b=/0 ")
	d.Append("a.tmp", []byte("0123456789abcdef"))
	hold(t, "there is room without the torn one", shelf.Put(d, "a", []byte("0123456789")), api.OK, d, "a=0123456789/10 b=/0 ")
	hold(t, "no room", shelf.Put(d, "a", []byte("0123456789X")), api.ErrFull, d, "a=0123456789/10 b=/0 ")
	hold(t, "no name", shelf.Put(d, "", []byte("x")), api.ErrArg, d, ".tmp=x/1 a=0123456789/10 b=/0 ")
}

func TestPutErrsP2401(t *testing.T) {
	for n, want := range []string{"a=old/3 a.tmp=torn/0 ", "a=old/3 ", "a=old/3 a.tmp=new/0 ", "a=old/3 a.tmp=new/3 "} {
		d := device.New(100)
		d.Append("a", []byte("old"))
		d.Sync("a")
		d.Append("a.tmp", []byte("torn"))
		d.Fuse(n)
		hold(t, fmt.Sprint(n), shelf.Put(d, "a", []byte("new")), api.ErrDown, d, want)
	}
	d := device.New(100)
	d.Fuse(3)
	hold(t, "three calls are enough", shelf.Put(d, "a", []byte("new")), api.OK, d, "a=new/3 ")
	hold(t, "dead", shelf.Put(d, "b", nil), api.ErrDown, d, "a=new/3 ")
}

func TestNamesP2401(t *testing.T) {
	for n, want := range map[int]string{0: "0", 3: "3", 1234567: "1234567", math.MaxInt: "9223372036854775807"} {
		if shelf.Block(n) != "b"+want || shelf.Snap(n) != "s"+want {
			t.Errorf("%d: %q %q", n, shelf.Block(n), shelf.Snap(n))
		}
	}
	for _, n := range []int{-1, math.MinInt} {
		if shelf.Block(n) != "" || shelf.Snap(n) != "" {
			t.Errorf("%d: %q %q", n, shelf.Block(n), shelf.Snap(n))
		}
	}
}

func TestIsBlock(t *testing.T) {
	for name, want := range map[string]bool{
		"b0": true, "b7": true, "b9223372036854775807": true,
		"": false, "b": false, "7": false, "bb7": false, "b07": false, "b+7": false, "b-7": false, "b7.tmp": false, "s7": false, "b9223372036854775808": false,
	} {
		if shelf.IsBlock(name) != want {
			t.Errorf("%q: %v", name, !want)
		}
	}
}

func TestLoadP2401(t *testing.T) {
	c := sample.Chance(24)
	d := device.New(1 << 20)
	b := block.Make(7, 8, 9, c.Episodes(4, 3))
	shelf.Put(d, "b7", block.Bytes(b))
	shelf.Put(d, "b8", block.Bytes(b))
	shelf.Put(d, "b9", block.Bytes(b)[1:])
	head := api.Block{Number: 7, Born: 8, Tier: 9}
	if got, ok := shelf.Load(d, head); !ok || fmt.Sprint(got) != fmt.Sprint(b) {
		t.Errorf("%v %v", got, ok)
	}
	other := head
	other.Episodes = c.Episodes(2, 2)
	if got, ok := shelf.Load(d, other); !ok || fmt.Sprint(got) != fmt.Sprint(b) {
		t.Errorf("with other episodes: %v %v", got, ok)
	}
	for i, wrong := range []api.Block{
		{Number: 6, Born: 8, Tier: 9}, {Number: 8, Born: 8, Tier: 9}, {Number: 9, Born: 8, Tier: 9},
		{Number: 7, Born: 7, Tier: 9}, {Number: 7, Born: 8, Tier: 8}, {Number: -1, Born: 8, Tier: 9}, {},
	} {
		if got, ok := shelf.Load(d, wrong); ok || fmt.Sprint(got) != fmt.Sprint(api.Block{}) {
			t.Errorf("%d: %v %v", i, got, ok)
		}
	}
}

func TestWholeBehindACrashP2402(t *testing.T) {
	for n := range 5 {
		for pick := range 5 {
			for _, torn := range []bool{false, true} {
				d := device.New(100)
				shelf.Put(d, "a", []byte("old"))
				if torn {
					d.Append("a.tmp", []byte("xyz"))
				}
				d.Fuse(n)
				err := shelf.Put(d, "a", []byte("new!"))
				d.Crash(pick, pick)
				b, _ := d.Read("a")
				if got := string(b); got != "new!" && (got != "old" || err == api.OK) {
					t.Errorf("%d %d %v: %q, %d", n, pick, torn, got, err)
				}
			}
		}
	}
}

func TestNilP2402(t *testing.T) {
	if err := shelf.Put(nil, "a", nil); err != api.ErrArg {
		t.Errorf("%d", err)
	}
	if _, ok := shelf.Load(nil, api.Block{}); ok {
		t.Error("a nil device")
	}
}

func TestNewMemoryP2402(t *testing.T) {
	d := device.New(1 << 20)
	b := []byte("abc")
	shelf.Put(d, "a", b)
	clear(b)
	if got := told(d); got != "a=abc/3 " {
		t.Errorf("%q", got)
	}
}
