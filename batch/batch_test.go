package batch_test

import (
	"bytes"
	"fmt"
	"testing"

	"gleaning/api"
	"gleaning/batch"
	"gleaning/check"
	"gleaning/ints"
	"gleaning/sample"
	"gleaning/span"
)

// summed puts the sum behind bytes.
func summed(b []byte) []byte {
	sum := check.Sum(b)
	return append(bytes.Clone(b), byte(sum), byte(sum>>8), byte(sum>>16), byte(sum>>24))
}

// raw writes spans, however many.
func raw(n int, l []api.Span) []byte {
	b := ints.Put(nil, uint64(n))
	for _, s := range l {
		b = append(b, span.Bytes(s)...)
	}
	return b
}

func TestBytesP401(t *testing.T) {
	c := sample.Chance(4)
	for _, n := range []int{1, 2, 7, api.MaxSpans} {
		l := c.Spans(n, 5)
		b := batch.Bytes(l)
		if want := summed(raw(n, l)); !bytes.Equal(b, want) {
			t.Errorf("%d spans: %v, not %v", n, b, want)
		}
		got, err := batch.Read(b)
		if err != api.OK || fmt.Sprint(got) != fmt.Sprint(l) {
			t.Errorf("%d spans read: %v %d", n, got, err)
		}
	}
}

func TestBytesOfNoneP401(t *testing.T) {
	c := sample.Chance(4)
	for i, l := range [][]api.Span{
		nil,
		{},
		{api.Span{}},
		append(c.Spans(3, 5), api.Span{Service: "a", Op: "b", Start: -1}),
		c.Spans(api.MaxSpans+1, 5),
	} {
		if b := batch.Bytes(l); len(b) != 0 {
			t.Errorf("%d: %v", i, b)
		}
	}
}

func TestReadOfNoneP401(t *testing.T) {
	c := sample.Chance(5)
	l := c.Spans(3, 5)
	b := batch.Bytes(l)
	other := bytes.Clone(b)
	other[len(other)-1]++
	wrong := [][]byte{
		nil,
		{0, 0, 0, 0},
		summed([]byte{0}),
		summed(nil),
		summed(raw(2, l)),
		summed(raw(4, l)),
		summed(append(raw(3, l), 0)),
		summed(raw(51, c.Spans(51, 5))),
		summed(ints.Put(nil, 1<<62)),
		summed(append([]byte{131, 0}, raw(3, l)[1:]...)),
		append(bytes.Clone(b), 0),
		other,
	}
	for cut := range b {
		wrong = append(wrong, b[:cut])
	}
	for i := range b {
		turned := bytes.Clone(b)
		turned[i] ^= 1 << (i % 8)
		wrong = append(wrong, turned)
	}
	for i, b := range wrong {
		if l, err := batch.Read(b); err != api.ErrBytes || len(l) != 0 {
			t.Errorf("%d: %v: %v %d", i, b, l, err)
		}
	}
}

func TestNewMemoryP402(t *testing.T) {
	c := sample.Chance(6)
	l := c.Spans(5, 5)
	before := fmt.Sprint(l)
	b := batch.Bytes(l)
	read, _ := batch.Read(b)
	clear(b)
	if fmt.Sprint(l) != before || fmt.Sprint(read) != before {
		t.Error("memory is shared")
	}
	if one, two := batch.Bytes(l), batch.Bytes(l); &one[0] == &two[0] {
		t.Error("two answers share memory")
	}
}
