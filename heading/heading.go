// Package heading is what the layers 13 to 16 share: each message begins with its kind and three bytes 0.
package heading

import (
	"crawlway/api"
	"crawlway/taker"
)

// Size is how many bytes a heading has.
const Size = 4

// Bytes are the heading of a kind.
func Bytes(kind byte) []byte { return []byte{kind, 0, 0, 0} }

// Take is a taker of what stands behind the heading of a message that has from least to most bytes.
func Take(b []byte, kind byte, least, most int) (*taker.Taker, api.Errno) {
	if len(b) < max(least, Size) {
		return nil, api.ErrShort
	}
	if len(b) > most {
		return nil, api.ErrLong
	}
	t := taker.New(b)
	if t.Little(1) != uint64(kind) {
		return nil, api.ErrKind
	}
	if !t.Zeros(Size - 1) {
		return nil, t.Fail()
	}
	return t, api.OK
}
