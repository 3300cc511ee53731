// Package taker is layer 2: see shared/doc/02-taker.md.
package taker

import (
	"crawlway/api"
	"crawlway/endian"
)

// Taker is the bytes that are not taken yet, and what failed first.
// The bytes are never written: a copy of a Taker may share them, and goes its own way.
type Taker struct {
	rest []byte
	fail api.Errno
}

// New is a taker of bytes.
func New(b []byte) *Taker { return &Taker{rest: clone(b)} }

// Left is how many bytes are not taken yet.
func (t *Taker) Left() int {
	if t == nil {
		return 0
	}
	return len(t.rest)
}

// Fail is what failed first.
func (t *Taker) Fail() api.Errno {
	if t == nil {
		return api.ErrNil
	}
	return t.fail
}

// Little is the next number, whose lowest byte comes first.
func (t *Taker) Little(size int) uint64 { return t.number(size, endian.OfLittle) }

// Big is the next number, whose highest byte comes first.
func (t *Taker) Big(size int) uint64 { return t.number(size, endian.OfBig) }

// Bytes are the next bytes.
func (t *Taker) Bytes(n int) []byte {
	if !t.may(n >= 0, n) {
		return nil
	}
	return clone(t.take(n))
}

// Zeros tells whether the next bytes are 0.
func (t *Taker) Zeros(n int) bool {
	if !t.may(n >= 0, n) {
		return false
	}
	for _, c := range t.rest[:n] {
		if c != 0 {
			t.fail = api.ErrZero
			return false
		}
	}
	t.take(n)
	return true
}

func (t *Taker) number(size int, of func([]byte) (uint64, api.Errno)) uint64 {
	if !t.may(size >= 1 && size <= 8, size) {
		return 0
	}
	// It can't fail: may has seen that size is one that layer 1 takes.
	n, _ := of(t.take(size))
	return n
}

// may tells whether n bytes can be taken, fits telling whether n is a size to ask for. If they can't, why stays, unless something failed ahead of it.
func (t *Taker) may(fits bool, n int) bool {
	if t == nil || t.fail != api.OK {
		return false
	}
	if !fits {
		t.fail = api.ErrArg
	} else if n > len(t.rest) {
		t.fail = api.ErrShort
	}
	return t.fail == api.OK
}

func (t *Taker) take(n int) []byte {
	b := t.rest[:n]
	t.rest = t.rest[n:]
	return b
}

func clone(b []byte) []byte {
	c := make([]byte, len(b))
	copy(c, b)
	return c
}
