package notice_test

import (
	"bytes"
	"testing"

	"crawlway/api"
	"crawlway/notice"
	"crawlway/onesum"
)

// P22.2, P23.2: both ways, with parts ahead in any number and of odd sizes too.
func TestBothWays(t *testing.T) {
	for _, ahead := range [][][]byte{nil, {}, {{1, 2}}, {{1}, {2, 3, 4}}, {nil, {9, 9, 9, 9}, {}}} {
		for size := range 20 {
			front := bytes.Repeat([]byte{200}, size)
			b := notice.Bytes(9, 7, front, ahead...)
			if len(b) != notice.Size+size || b[0] != 9 || b[1] != 7 || !bytes.Equal(b[4:8], make([]byte, 4)) || !bytes.Equal(b[8:], front) {
				t.Errorf("Bytes: %v", b)
			}
			if !onesum.Good(append(bytes.Join(ahead, nil), b...)) {
				t.Errorf("not good: %v, %v", ahead, b)
			}
			if got, fail := notice.Front(b, 9, 7, ahead...); !bytes.Equal(got, front) || fail != api.OK {
				t.Errorf("Front: %v, %v", got, fail)
			}
			if got, fail := notice.Front(b, 9, 7, append(ahead, []byte{0, 1})...); got != nil || fail != api.ErrSum {
				t.Errorf("Front, with more ahead: %v, %v", got, fail)
			}
		}
	}
}

// P22.2, P23.2: the errors, in their order.
func TestFront(t *testing.T) {
	for _, c := range []struct {
		b    []byte
		want api.Errno
	}{
		{nil, api.ErrShort},
		{[]byte{9, 7, 0, 0, 0, 0, 0}, api.ErrShort},
		{[]byte{1, 1, 1, 1, 1, 1, 1}, api.ErrShort},
		{[]byte{8, 7, 1, 1, 1, 1, 1, 1}, api.ErrKind},
		{[]byte{9, 6, 1, 1, 1, 1, 1, 1}, api.ErrKind},
		{[]byte{9, 7, 1, 1, 1, 1, 1, 1}, api.ErrSum},
		{[]byte{9, 7, 0, 0, 0, 0, 0, 0}, api.ErrSum},
		{[]byte{9, 7, 246, 248, 0, 0, 0, 0}, api.OK},
		{[]byte{9, 7, 245, 248, 1, 0, 0, 0}, api.ErrZero},
		{[]byte{9, 7, 246, 247, 0, 1, 0, 0}, api.ErrZero},
		{[]byte{9, 7, 245, 248, 0, 0, 1, 0}, api.ErrZero},
		{[]byte{9, 7, 246, 247, 0, 0, 0, 1}, api.ErrZero},
	} {
		if got, fail := notice.Front(c.b, 9, 7); len(got) != 0 || fail != c.want {
			t.Errorf("Front(%v): %v, %v", c.b, got, fail)
		}
	}
}

// R2: what is answered is new, and what was handed in is as it was, even where it has room.
func TestAnew(t *testing.T) {
	front := append(make([]byte, 0, 9), 1, 2)
	ahead := append(make([][]byte, 0, 9), []byte{3, 4})
	b := notice.Bytes(9, 7, front, ahead...)
	got, _ := notice.Front(b, 9, 7, ahead...)
	got[0] = 99
	if b[8] != 1 || front[0] != 1 || ahead[0][0] != 3 || ahead[:2][1] != nil {
		t.Errorf("changed: %v, %v, %v", b, front, ahead[:2])
	}
	b[9] = 99
	if front[1] != 2 {
		t.Errorf("changed: %v", front)
	}
}
