// Package words is layer 1, little-endian integers: see shared/doc/01-words.md.
package words

import (
	"bytes"
	"math/bits"
)

// word is what has a fixed number of bytes; int has not, so it is left out.
type word interface {
	uint16 | uint32 | uint64
}

// size tells how many bytes a word of the type has, so that no caller can name a number that does not fit its type.
func size[T word]() int { return bits.Len64(uint64(^T(0))) / 8 }

func get[T word](b []byte, at int) (T, bool) {
	n := size[T]()
	// The number of bytes is taken from the length, not added to the offset: the sum of a great offset would wrap round.
	if at < 0 || at > len(b)-n {
		return 0, false
	}
	var x T
	for i := range n {
		x |= T(b[at+i]) << (8 * i)
	}
	return x, true
}

func put[T word](x T) []byte {
	n := size[T]()
	b := make([]byte, n)
	for i := range n {
		b[i] = byte(x >> (8 * i))
	}
	return b
}

// Get16: P1.1.
func Get16(b []byte, at int) (uint16, bool) { return get[uint16](b, at) }

// Get32: P1.1.
func Get32(b []byte, at int) (uint32, bool) { return get[uint32](b, at) }

// Get64: P1.1.
func Get64(b []byte, at int) (uint64, bool) { return get[uint64](b, at) }

// Put16: P1.2.
func Put16(x uint16) []byte { return put(x) }

// Put32: P1.2.
func Put32(x uint32) []byte { return put(x) }

// Put64: P1.2.
func Put64(x uint64) []byte { return put(x) }

// Halves: P1.3.
func Halves(x uint64) (low, high uint32) { return uint32(x), uint32(x >> 32) }

// Whole: P1.3.
func Whole(low, high uint32) uint64 { return uint64(high)<<32 | uint64(low) }

// Cat: P1.4.
func Cat(l ...[]byte) []byte {
	n := 0
	for _, b := range l {
		n += len(b)
	}
	// The room is made ahead of the first piece: appending to a piece itself would write behind its length.
	all := make([]byte, 0, n)
	for _, b := range l {
		all = append(all, b...)
	}
	return all
}

// Same: P1.4.
func Same(a, b []byte) bool { return bytes.Equal(a, b) }
