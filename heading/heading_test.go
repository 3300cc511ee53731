package heading_test

import (
	"bytes"
	"testing"

	"crawlway/api"
	"crawlway/heading"
)

// P13.1, P14.1, P15.1, P16.1: what messages of every kind begin with.
func TestBytes(t *testing.T) {
	for kind := range 256 {
		if b := heading.Bytes(byte(kind)); !bytes.Equal(b, []byte{byte(kind), 0, 0, 0}) {
			t.Errorf("Bytes(%d): %v", kind, b)
		}
	}
}

// P13.2, P14.2, P15.2, P16.2: the size goes ahead of the kind, and the kind ahead of the noughts.
func TestTake(t *testing.T) {
	for _, c := range []struct {
		b           []byte
		least, most int
		left        int
		want        api.Errno
	}{
		{[]byte{9, 0, 0, 0}, 4, 4, 0, api.OK},
		{[]byte{9, 0, 0, 0, 7, 8}, 5, 7, 2, api.OK},
		{[]byte{9, 0, 0, 0, 7, 8}, 6, 6, 2, api.OK},
		{[]byte{9, 0, 0, 0, 7, 8}, 7, 9, 0, api.ErrShort},
		{[]byte{9, 0, 0, 0, 7, 8}, 4, 5, 0, api.ErrLong},
		{[]byte{1, 2, 3, 4, 5, 6}, 7, 9, 0, api.ErrShort},
		{[]byte{1, 2, 3, 4, 5, 6}, 4, 5, 0, api.ErrLong},
		{[]byte{1, 2, 3, 4, 5, 6}, 4, 6, 0, api.ErrKind},
		{[]byte{9, 2, 3, 4, 5, 6}, 4, 6, 0, api.ErrZero},
		{[]byte{9, 1, 0, 0}, 4, 4, 0, api.ErrZero},
		{[]byte{9, 0, 1, 0}, 4, 4, 0, api.ErrZero},
		{[]byte{9, 0, 0, 1}, 4, 4, 0, api.ErrZero},
		{nil, 0, 9, 0, api.ErrShort},
		{[]byte{9, 0, 0}, 0, 9, 0, api.ErrShort},
		{[]byte{9, 0, 0}, -1, -1, 0, api.ErrShort},
	} {
		got, fail := heading.Take(c.b, 9, c.least, c.most)
		if fail != c.want || (got == nil) != (fail != api.OK) || got.Left() != c.left {
			t.Errorf("Take(%v, %d, %d): %d bytes left, %v", c.b, c.least, c.most, got.Left(), fail)
		}
	}
}
