package ints_test

import (
	"bytes"
	"math"
	"math/rand"
	"strings"
	"testing"

	"gleaning/ints"
)

func TestPutP101(t *testing.T) {
	cases := []struct {
		n    uint64
		want []byte
	}{
		{0, []byte{0}},
		{1, []byte{1}},
		{127, []byte{127}},
		{128, []byte{128, 1}},
		{300, []byte{172, 2}},
		{16383, []byte{255, 127}},
		{16384, []byte{128, 128, 1}},
		{1 << 63, []byte{128, 128, 128, 128, 128, 128, 128, 128, 128, 1}},
		{math.MaxUint64, []byte{255, 255, 255, 255, 255, 255, 255, 255, 255, 1}},
	}
	for _, c := range cases {
		if got := ints.Put(nil, c.n); !bytes.Equal(got, c.want) {
			t.Errorf("Put %d: %v", c.n, got)
		}
		if got := ints.Put([]byte{7, 8}, c.n); !bytes.Equal(got, append([]byte{7, 8}, c.want...)) {
			t.Errorf("Put %d behind others: %v", c.n, got)
		}
		if n, k, ok := ints.Get(append(bytes.Clone(c.want), 255, 0)); n != c.n || k != len(c.want) || !ok {
			t.Errorf("Get %v: %d %d %v", c.want, n, k, ok)
		}
		for cut := range c.want {
			if n, k, ok := ints.Get(c.want[:cut]); n != 0 || k != 0 || ok {
				t.Errorf("Get %v: %d %d %v", c.want[:cut], n, k, ok)
			}
		}
	}
}

func TestGetOfNoneP101(t *testing.T) {
	nines := bytes.Repeat([]byte{255}, 9)
	for _, b := range [][]byte{
		nil,
		{128},
		{128, 0},
		{255, 128, 0},
		append(bytes.Clone(nines), 0),
		append(bytes.Clone(nines), 2),
		append(bytes.Clone(nines), 127),
		append(bytes.Clone(nines), 128, 1),
		append(bytes.Clone(nines), 129, 0),
		append(bytes.Clone(nines), 255, 255, 255, 1),
	} {
		if n, k, ok := ints.Get(b); n != 0 || k != 0 || ok {
			t.Errorf("Get %v: %d %d %v", b, n, k, ok)
		}
	}
}

func TestGetIsPutBackP101(t *testing.T) {
	r := rand.New(rand.NewSource(1))
	for range 5000 {
		n := r.Uint64() >> r.Intn(64)
		b := ints.Put(nil, n)
		if got, k, ok := ints.Get(b); got != n || k != len(b) || !ok {
			t.Fatalf("%d: %v: %d %d %v", n, b, got, k, ok)
		}
		any := make([]byte, r.Intn(12))
		r.Read(any)
		if got, k, ok := ints.Get(any); ok && !bytes.Equal(ints.Put(nil, got), any[:k]) {
			t.Fatalf("%v: %d %d", any, got, k)
		}
	}
}

func TestTextP101(t *testing.T) {
	for _, s := range []string{"", "a", "\x00\xff", strings.Repeat("x", 127), strings.Repeat("y", 128)} {
		want := append(ints.Put([]byte{9}, uint64(len(s))), s...)
		b := ints.Text([]byte{9}, s)
		if !bytes.Equal(b, want) {
			t.Errorf("Text of %d bytes: %v", len(s), b)
		}
		b = b[1:]
		if got, k, ok := ints.GetText(append(bytes.Clone(b), 1, 2)); got != s || k != len(b) || !ok {
			t.Errorf("GetText of %d bytes: %q %d %v", len(s), got, k, ok)
		}
		for cut := range b {
			if got, k, ok := ints.GetText(b[:cut]); got != "" || k != 0 || ok {
				t.Errorf("GetText of %d of %d bytes: %q %d %v", cut, len(b), got, k, ok)
			}
		}
	}
}

func TestGetTextOfNoneP101(t *testing.T) {
	for _, b := range [][]byte{
		nil,
		{1},
		{3, 65, 66},
		{129, 0, 65},
		ints.Put(nil, math.MaxUint64),
		append(ints.Put(nil, math.MaxInt64), 65),
		append(ints.Put(nil, 1<<63), 65),
	} {
		if s, k, ok := ints.GetText(b); s != "" || k != 0 || ok {
			t.Errorf("GetText %v: %q %d %v", b, s, k, ok)
		}
	}
}

func TestNewMemoryP102(t *testing.T) {
	room := make([]byte, 1, 50)
	a, b := ints.Put(room, 5), ints.Put(room, 6)
	c, d := ints.Text(room, "one"), ints.Text(room, "two")
	if a[1] != 5 || b[1] != 6 || string(c[2:]) != "one" || string(d[2:]) != "two" {
		t.Error("two answers share memory")
	}
	if spare := room[:cap(room)]; !bytes.Equal(spare, make([]byte, 50)) {
		t.Error("the spare room was written into")
	}
	in := []byte{2, 65, 66}
	s, _, _ := ints.GetText(in)
	in[1] = 67
	if s != "AB" {
		t.Error("the text hangs on the bytes that were handed in")
	}
}

func TestReader(t *testing.T) {
	most := ints.Reader{Rest: ints.Put(nil, math.MaxInt)}
	if most.Number() != math.MaxInt || !most.Done() {
		t.Error("the greatest int")
	}
	b := ints.Append(nil, math.MaxUint64)
	b = ints.Append(b, 300)
	b = ints.AppendText(b, "ab")
	b = ints.AppendFlag(ints.AppendFlag(b, true), false)
	b = append(b, 255, 4, 5)
	r := ints.Reader{Rest: b}
	if r.Wide() != math.MaxUint64 || r.Number() != 300 || r.Text() != "ab" || !r.Flag() || r.Flag() || r.Byte() != 255 {
		t.Error("not read back")
	}
	if r.Done() || !bytes.Equal(r.Take(2), []byte{4, 5}) || !r.Done() {
		t.Error("the end is not told")
	}
	for i, read := range []func(r *ints.Reader){
		func(r *ints.Reader) { r.Wide() },
		func(r *ints.Reader) { r.Text() },
		func(r *ints.Reader) { r.Byte() },
		func(r *ints.Reader) { r.Take(1) },
		func(r *ints.Reader) { r.Take(-1) },
		func(r *ints.Reader) { r.Rest = []byte{2, 7}; r.Flag() },
		func(r *ints.Reader) { r.Rest = []byte{1, 7}; r.Text(); r.Rest = []byte{9, 9}; r.Text() },
		func(r *ints.Reader) { r.Rest = []byte{1, 7}; r.Take(3) },
		func(r *ints.Reader) { r.Rest = []byte{1, 7}; r.Fail() },
		func(r *ints.Reader) { r.Rest = ints.Put(nil, 1<<63); r.Number() },
	} {
		r := ints.Reader{}
		read(&r)
		if !r.Bad || r.Done() || r.Number() != 0 || r.Text() != "" || r.Byte() != 0 || r.Take(1) != nil {
			t.Errorf("%d: not bad", i)
		}
	}
}
