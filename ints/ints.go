// Package ints writes numbers and texts as bytes, and reads them back.
package ints

import (
	"slices"
)

const (
	low  = 0x7f // the bits of a byte that are the number's
	high = 0x80 // the bit that says that a further byte follows
)

// longest is how many bytes the greatest number has; its last byte is at most 1.
const longest = 10

// Put is b, and n behind it, in new memory.
func Put(b []byte, n uint64) []byte {
	return Append(slices.Clone(b), n)
}

// Get reads the number that b begins with, and how many bytes it has.
func Get(b []byte) (uint64, int, bool) {
	n := uint64(0)
	for i, c := range b {
		if i == longest-1 && c > 1 {
			return 0, 0, false
		}
		n |= uint64(c&low) << (7 * i)
		if c&high != 0 {
			continue
		}
		if c == 0 && i > 0 {
			return 0, 0, false
		}
		return n, i + 1, true
	}
	return 0, 0, false
}

// Text is b, and s behind it with its length ahead, in new memory.
func Text(b []byte, s string) []byte {
	return AppendText(slices.Clone(b), s)
}

// GetText reads the text that b begins with, and how many bytes it has with its length.
func GetText(b []byte) (string, int, bool) {
	n, k, ok := Get(b)
	if !ok || n > uint64(len(b)-k) {
		return "", 0, false
	}
	end := k + int(n)
	return string(b[k:end]), end, true
}

// Append is Put into b's own memory: one who writes a long thing piece by piece can't copy it each time.
func Append(b []byte, n uint64) []byte {
	for n > low {
		b = append(b, byte(n)|high)
		n >>= 7
	}
	return append(b, byte(n))
}

// AppendText is Text into b's own memory.
func AppendText(b []byte, s string) []byte {
	return append(Append(b, uint64(len(s))), s...)
}

// AppendFlag writes 1 or 0 into b's own memory.
func AppendFlag(b []byte, yes bool) []byte {
	if yes {
		return append(b, 1)
	}
	return append(b, 0)
}
