package check_test

import (
	"bytes"
	"hash/crc32"
	"math/rand"
	"sync"
	"testing"

	"gleaning/check"
)

func TestSumP201(t *testing.T) {
	cases := []struct {
		text string
		want uint32
	}{
		{"", 0},
		{"a", 0xe8b7be43},
		{"123456789", 0xcbf43926},
		{"\x00", 0xd202ef8d},
		{"\xff", 0xff000000},
		{"\x00\x00\x00\x00", 0x2144df1c},
	}
	for _, c := range cases {
		if got := check.Sum([]byte(c.text)); got != c.want {
			t.Errorf("Sum %q: %x, not %x", c.text, got, c.want)
		}
	}
	if check.Sum(nil) != 0 {
		t.Error("Sum of nothing")
	}
}

func TestSumIsByBitsP201(t *testing.T) {
	r := rand.New(rand.NewSource(2))
	for range 500 {
		b := make([]byte, r.Intn(300))
		r.Read(b)
		if got, want := check.Sum(b), crc32.ChecksumIEEE(b); got != want {
			t.Fatalf("%v: %x, not %x", b, got, want)
		}
	}
}

// alike tells whether the sum by bits and the one by the table are the same, and right.
func alike(b []byte) bool {
	return check.Sum(b) == check.SumByTable(b) && check.Sum(b) == crc32.ChecksumIEEE(b)
}

func TestBitsAndTableAreAlikeP201(t *testing.T) {
	if !alike(nil) || !alike([]byte{}) {
		t.Error("nothing")
	}
	for i := range 256 {
		if !alike([]byte{byte(i)}) {
			t.Errorf("the byte %d", i)
		}
	}
	all := make([]byte, 1000)
	rand.New(rand.NewSource(3)).Read(all)
	for end := range len(all) + 1 {
		if !alike(all[:end]) || !alike(all[end:]) {
			t.Fatalf("cut at %d", end)
		}
	}
	for _, b := range []byte{0, 1, 0x80, 0xff} {
		if !alike(bytes.Repeat([]byte{b}, 1<<16)) {
			t.Errorf("many of %d", b)
		}
	}
}

func TestTheTableIsMadeOnceP202(t *testing.T) {
	b := []byte("123456789")
	var all sync.WaitGroup
	sums := make([]uint32, 8)
	for i := range sums {
		all.Go(func() { sums[i] = check.SumByTable(b) })
	}
	all.Wait()
	for i, sum := range sums {
		if sum != 0xcbf43926 || string(b) != "123456789" {
			t.Errorf("%d: %x", i, sum)
		}
	}
}

func TestMoreP201(t *testing.T) {
	b := []byte("what is summed in pieces")
	for cut := range len(b) + 1 {
		if check.More(check.Sum(b[:cut]), b[cut:]) != check.Sum(b) {
			t.Errorf("cut at %d", cut)
		}
	}
	if check.More(0x12345678, nil) != 0x12345678 {
		t.Error("More of nothing")
	}
}

func TestNothingIsTurnedP202(t *testing.T) {
	b := []byte{1, 2, 3, 4}
	first := check.Sum(b)
	if second := check.Sum(b); first != second || !bytes.Equal(b, []byte{1, 2, 3, 4}) {
		t.Error("the second answer is another one")
	}
	var all sync.WaitGroup
	sums := make([]uint32, 8)
	for i := range sums {
		all.Go(func() { sums[i] = check.Sum(b) })
	}
	all.Wait()
	for i, sum := range sums {
		if sum != first {
			t.Errorf("%d: %x", i, sum)
		}
	}
}

func TestAppendAndCut(t *testing.T) {
	b := check.Append([]byte("123456789"))
	if !bytes.Equal(b[9:], []byte{0x26, 0x39, 0xf4, 0xcb}) {
		t.Errorf("Append: %v", b)
	}
	if got, ok := check.Cut(b); !ok || string(got) != "123456789" {
		t.Errorf("Cut: %q %v", got, ok)
	}
	if got, ok := check.Cut(make([]byte, 4)); !ok || len(got) != 0 {
		t.Error("Cut of the sum of nothing")
	}
	for _, wrong := range [][]byte{nil, {0, 0, 0}, {1, 0, 0, 0}, b[:12], append(bytes.Clone(b), 0)} {
		if got, ok := check.Cut(wrong); ok || got != nil {
			t.Errorf("Cut %v", wrong)
		}
	}
	if check.Get([]byte{1, 2, 3}) != 0 || check.Get([]byte{1, 2, 3, 4, 5}) != 0x04030201 {
		t.Error("Get")
	}
}
