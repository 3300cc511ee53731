// Package notice is what the layers 22 and 23 share: what stands behind the head of a message that a packet did not arrive.
package notice

import (
	"bytes"

	"crawlway/api"
	"crawlway/onesum"
)

// Size is how many bytes stand ahead of the packet's front: kind, code, two of the check, and four that are 0.
const Size = 8

// Bytes are a notice of a packet's front; its check counts what stands ahead as well, as if it were there.
func Bytes(kind, code byte, front []byte, ahead ...[]byte) []byte {
	b := append([]byte{kind, code, 0, 0, 0, 0, 0, 0}, front...)
	check := onesum.Check(behind(ahead, b)...)
	b[2], b[3] = byte(check>>8), byte(check)
	return b
}

// Front is what a notice has of the packet; its check counts what stands ahead as well, as if it were there.
func Front(b []byte, kind, code byte, ahead ...[]byte) ([]byte, api.Errno) {
	switch {
	case len(b) < Size:
		return nil, api.ErrShort
	case b[0] != kind || b[1] != code:
		return nil, api.ErrKind
	case !onesum.Good(behind(ahead, b)...):
		return nil, api.ErrSum
	case b[4]|b[5]|b[6]|b[7] != 0:
		return nil, api.ErrZero
	}
	return bytes.Clone(b[Size:]), api.OK
}

// behind are parts and one more; the list is a new one, as the caller's may have room behind its end.
func behind(parts [][]byte, last []byte) [][]byte {
	return append(append([][]byte{}, parts...), last)
}
