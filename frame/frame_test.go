package frame_test

import (
	"bytes"
	"math"
	"testing"

	"gleaning/check"
	"gleaning/frame"
	"gleaning/ints"
	"gleaning/sample"
)

// records are records of several lengths.
func records() [][]byte {
	c := sample.Chance(5)
	return [][]byte{[]byte("one"), nil, {0}, c.Bytes(127), c.Bytes(128), c.Bytes(20000)}
}

// raw writes a record with the length written so, and the sum told.
func raw(length []byte, sum uint32, p []byte) []byte {
	b := append(bytes.Clone(length), byte(sum), byte(sum>>8), byte(sum>>16), byte(sum>>24))
	return append(b, p...)
}

func TestBytesP501(t *testing.T) {
	for i, p := range records() {
		want := raw(ints.Put(nil, uint64(len(p))), check.Sum(p), p)
		if got := frame.Bytes(p); !bytes.Equal(got, want) {
			t.Errorf("%d: %v, not %v", i, got, want)
		}
	}
	if got := frame.Bytes(nil); !bytes.Equal(got, make([]byte, 5)) {
		t.Errorf("of an empty record: %v", got)
	}
}

func TestSplitP501(t *testing.T) {
	all := []byte(nil)
	for n, p := range records() {
		all = append(all, frame.Bytes(p)...)
		got, end := frame.Split(all)
		if len(got) != n+1 || end != len(all) {
			t.Fatalf("%d records: %d, %d of %d", n+1, len(got), end, len(all))
		}
		for i, p := range records()[:n+1] {
			if !bytes.Equal(got[i], p) {
				t.Errorf("%d of %d: %v", i, n+1, got[i])
			}
		}
	}
	if got, end := frame.Split(nil); len(got) != 0 || end != 0 {
		t.Error("of nothing")
	}
}

func TestSplitStopsP501(t *testing.T) {
	good := frame.Bytes([]byte("good"))
	next := []byte("next")
	wrong := [][]byte{
		raw([]byte{4}, check.Sum(next)+1, next),
		raw([]byte{4}, check.Sum(next), []byte("nexu")),
		raw([]byte{132, 0}, check.Sum(next), next),
		raw([]byte{3}, check.Sum(next), next),
		raw([]byte{5}, check.Sum(next), next),
		raw([]byte{0}, 1, nil),
		raw(ints.Put(nil, math.MaxUint64), check.Sum(next), next),
		raw(ints.Put(nil, math.MaxInt64), check.Sum(next), next),
		raw(bytes.Repeat([]byte{255}, 11), check.Sum(next), next),
	}
	whole := frame.Bytes(next)
	for cut := 1; cut < len(whole); cut++ {
		wrong = append(wrong, whole[:cut])
	}
	for i, b := range wrong {
		got, end := frame.Split(append(bytes.Clone(good), b...))
		if len(got) != 1 || string(got[0]) != "good" || end != len(good) {
			t.Errorf("%d: %q, %d", i, got, end)
		}
		if got, end := frame.Split(b); len(got) != 0 || end != 0 {
			t.Errorf("%d alone: %q, %d", i, got, end)
		}
	}
	torn := append(append(bytes.Clone(good), 9), good...)
	if got, end := frame.Split(torn); len(got) != 1 || end != len(good) {
		t.Errorf("a record behind what is none: %q, %d", got, end)
	}
}

func TestNewMemoryP502(t *testing.T) {
	p := []byte("abc")
	b := append(frame.Bytes(p), frame.Bytes(p)...)
	l, _ := frame.Split(b)
	l[0] = append(l[0], "xyz"...)
	clear(b)
	if string(l[0]) != "abcxyz" || string(l[1]) != "abc" || string(p) != "abc" {
		t.Errorf("memory is shared: %q", l)
	}
	clear(l[0])
	if string(l[1]) != "abc" {
		t.Error("two records share memory")
	}
}
