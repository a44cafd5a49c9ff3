package ints

import (
	"math"
)

// Reader reads one thing behind the other. Once one is none it is Bad, and all it answers then is zero: so one who reads many asks but once.
type Reader struct {
	Rest []byte
	Bad  bool
}

// Fail makes r bad.
func (r *Reader) Fail() {
	r.Rest = nil
	r.Bad = true
}

// Wide reads a number of 64 bits.
func (r *Reader) Wide() uint64 {
	n, k, ok := Get(r.Rest)
	if !ok {
		r.Fail()
		return 0
	}
	r.Rest = r.Rest[k:]
	return n
}

// Number reads a number that is an int.
func (r *Reader) Number() int {
	n := r.Wide()
	if n > math.MaxInt {
		r.Fail()
		return 0
	}
	return int(n)
}

// Text reads a text.
func (r *Reader) Text() string {
	s, k, ok := GetText(r.Rest)
	if !ok {
		r.Fail()
		return ""
	}
	r.Rest = r.Rest[k:]
	return s
}

// Flag reads a byte that is 1 or 0.
func (r *Reader) Flag() bool {
	n := r.Number()
	if n > 1 {
		r.Fail()
	}
	return n == 1
}

// Byte reads a byte as it is.
func (r *Reader) Byte() byte {
	b := r.Take(1)
	if len(b) == 0 {
		return 0
	}
	return b[0]
}

// Take reads so many bytes as they are; they are those of Rest, no others.
func (r *Reader) Take(n int) []byte {
	if n < 0 || n > len(r.Rest) {
		r.Fail()
		return nil
	}
	out := r.Rest[:n]
	r.Rest = r.Rest[n:]
	return out
}

// Done says whether all was read, and nothing was bad.
func (r *Reader) Done() bool {
	return !r.Bad && len(r.Rest) == 0
}
