// Package endian is layer 1: see shared/doc/01-endian.md.
package endian

import (
	"crawlway/api"
)

// Little is a number in bytes, the lowest one first.
func Little(n uint64, size int) ([]byte, api.Errno) {
	if fail := fits(n, size); fail != api.OK {
		return nil, fail
	}
	b := make([]byte, size)
	for i := range b {
		b[i] = byte(n >> (8 * i))
	}
	return b, api.OK
}

// Big is a number in bytes, the highest one first.
func Big(n uint64, size int) ([]byte, api.Errno) {
	if fail := fits(n, size); fail != api.OK {
		return nil, fail
	}
	b := make([]byte, size)
	for i := range b {
		b[i] = byte(n >> (8 * (size - 1 - i)))
	}
	return b, api.OK
}

// OfLittle is the number of bytes, the lowest one first.
func OfLittle(b []byte) (uint64, api.Errno) {
	if !sized(len(b)) {
		return 0, api.ErrArg
	}
	n := uint64(0)
	for i, c := range b {
		n |= uint64(c) << (8 * i)
	}
	return n, api.OK
}

// OfBig is the number of bytes, the highest one first.
func OfBig(b []byte) (uint64, api.Errno) {
	if !sized(len(b)) {
		return 0, api.ErrArg
	}
	n := uint64(0)
	for _, c := range b {
		n = n<<8 | uint64(c)
	}
	return n, api.OK
}

// Mask is the number of so many ones.
func Mask(n int) uint64 {
	// A shift by all 64 places leaves 0, and 0 less 1 wraps round to ones alone.
	return uint64(1)<<min(max(n, 0), 64) - 1
}

// Turn is a number whose bits are turned.
func Turn(n uint32, by int) uint32 {
	// The lowest five bits of by are its rest by 32, below 0 too: 1 place down is 31 places up.
	up := uint(by) & 31
	return n<<up | n>>(32-up)
}

// Ones is how many ones bytes begin with.
func Ones(b []byte) int {
	n := 0
	for _, c := range b {
		for mask := byte(1 << 7); mask != 0; mask >>= 1 {
			if c&mask == 0 {
				return n
			}
			n++
		}
	}
	return n
}

func sized(size int) bool { return size >= 1 && size <= 8 }

func fits(n uint64, size int) api.Errno {
	if !sized(size) {
		return api.ErrArg
	}
	if n > Mask(8*size) {
		return api.ErrRange
	}
	return api.OK
}
