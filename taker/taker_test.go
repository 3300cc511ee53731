package taker_test

import (
	"bytes"
	"math"
	"testing"

	"crawlway/api"
	"crawlway/taker"
)

// a call that takes: what it answers, be it something or nothing.
type call struct {
	name string
	does func(*taker.Taker) bool
}

// calls of every kind that would all take something of a taker of zeros.
func calls() []call {
	return []call{
		{"Little", func(t *taker.Taker) bool { return t.Little(1) != 0 }},
		{"Big", func(t *taker.Taker) bool { return t.Big(1) != 0 }},
		{"Bytes", func(t *taker.Taker) bool { return len(t.Bytes(1)) != 0 }},
		{"Bytes of none", func(t *taker.Taker) bool { return len(t.Bytes(0)) != 0 }},
		{"Zeros", func(t *taker.Taker) bool { return t.Zeros(1) }},
		{"Zeros of none", func(t *taker.Taker) bool { return t.Zeros(0) }},
		{"Little of no size", func(t *taker.Taker) bool { return t.Little(9) != 0 }},
		{"Bytes below 0", func(t *taker.Taker) bool { return len(t.Bytes(-1)) != 0 }},
		{"Bytes of too many", func(t *taker.Taker) bool { return len(t.Bytes(math.MaxInt)) != 0 }},
	}
}

func holds(t *testing.T, x *taker.Taker, left int, fail api.Errno) {
	t.Helper()
	if x.Left() != left || x.Fail() != fail {
		t.Errorf("%d left, not %d; %v, not %v", x.Left(), left, x.Fail(), fail)
	}
}

// P2.1: one thing behind the other.
func TestTaking(t *testing.T) {
	x := taker.New([]byte{1, 2, 0, 0})
	if n := x.Little(2); n != 513 {
		t.Error(n)
	}
	holds(t, x, 2, api.OK)
	if !x.Zeros(2) {
		t.Error("zeros")
	}
	holds(t, x, 0, api.OK)
	if b := x.Bytes(1); len(b) != 0 {
		t.Error(b)
	}
	holds(t, x, 0, api.ErrShort)
	x = taker.New([]byte{1, 2, 3, 4, 5, 6, 7, 8, 9, 10, 11})
	if n := x.Big(8); n != 0x0102030405060708 {
		t.Errorf("%x", n)
	}
	if b := x.Bytes(2); !bytes.Equal(b, []byte{9, 10}) {
		t.Error(b)
	}
	if n := x.Big(1); n != 11 {
		t.Error(n)
	}
	holds(t, x, 0, api.OK)
}

// P2.1: every size of number, either end first.
func TestNumbers(t *testing.T) {
	b := []byte{8, 7, 6, 5, 4, 3, 2, 1}
	little, big := uint64(0), uint64(0)
	for size := 1; size <= 8; size++ {
		little |= uint64(b[size-1]) << (8 * (size - 1))
		big = big<<8 | uint64(b[size-1])
		x, y := taker.New(b), taker.New(b)
		if n := x.Little(size); n != little {
			t.Errorf("Little(%d): %x", size, n)
		}
		if n := y.Big(size); n != big {
			t.Errorf("Big(%d): %x", size, n)
		}
		holds(t, x, 8-size, api.OK)
		holds(t, y, 8-size, api.OK)
	}
}

// P2.1: nothing is taken by one who asks for nothing, at the end, too.
func TestTakingNone(t *testing.T) {
	x := taker.New([]byte{5})
	if b := x.Bytes(0); len(b) != 0 || !x.Zeros(0) {
		t.Error(b)
	}
	holds(t, x, 1, api.OK)
	x.Bytes(1)
	if b := x.Bytes(0); len(b) != 0 || !x.Zeros(0) {
		t.Error(b)
	}
	holds(t, x, 0, api.OK)
}

// P2.2: what each kind of call fails with; ErrArg goes ahead of ErrShort, and that ahead of ErrZero.
func TestFails(t *testing.T) {
	for _, c := range []struct {
		does call
		want api.Errno
	}{
		{call{"Little(0)", func(x *taker.Taker) bool { return x.Little(0) != 0 }}, api.ErrArg},
		{call{"Little(-1)", func(x *taker.Taker) bool { return x.Little(-1) != 0 }}, api.ErrArg},
		{call{"Little(9)", func(x *taker.Taker) bool { return x.Little(9) != 0 }}, api.ErrArg},
		{call{"Little(least)", func(x *taker.Taker) bool { return x.Little(math.MinInt) != 0 }}, api.ErrArg},
		{call{"Little(4)", func(x *taker.Taker) bool { return x.Little(4) != 0 }}, api.ErrShort},
		{call{"Big(0)", func(x *taker.Taker) bool { return x.Big(0) != 0 }}, api.ErrArg},
		{call{"Big(9)", func(x *taker.Taker) bool { return x.Big(9) != 0 }}, api.ErrArg},
		{call{"Big(greatest)", func(x *taker.Taker) bool { return x.Big(math.MaxInt) != 0 }}, api.ErrArg},
		{call{"Big(8)", func(x *taker.Taker) bool { return x.Big(8) != 0 }}, api.ErrShort},
		{call{"Bytes(-1)", func(x *taker.Taker) bool { return len(x.Bytes(-1)) != 0 }}, api.ErrArg},
		{call{"Bytes(least)", func(x *taker.Taker) bool { return len(x.Bytes(math.MinInt)) != 0 }}, api.ErrArg},
		{call{"Bytes(4)", func(x *taker.Taker) bool { return len(x.Bytes(4)) != 0 }}, api.ErrShort},
		{call{"Bytes(greatest)", func(x *taker.Taker) bool { return len(x.Bytes(math.MaxInt)) != 0 }}, api.ErrShort},
		{call{"Zeros(-1)", func(x *taker.Taker) bool { return x.Zeros(-1) }}, api.ErrArg},
		{call{"Zeros(4)", func(x *taker.Taker) bool { return x.Zeros(4) }}, api.ErrShort},
		{call{"Zeros(greatest)", func(x *taker.Taker) bool { return x.Zeros(math.MaxInt) }}, api.ErrShort},
		{call{"Zeros(3)", func(x *taker.Taker) bool { return x.Zeros(3) }}, api.ErrZero},
	} {
		x := taker.New([]byte{0, 0, 7})
		if c.does.does(x) || x.Fail() != c.want || x.Left() != 3 {
			t.Errorf("%s: %v, %d left", c.does.name, x.Fail(), x.Left())
		}
	}
}

// P2.2: behind a call that failed all others fail, too, and the first error stays.
func TestFirstFailStays(t *testing.T) {
	for _, c := range []struct {
		first func(*taker.Taker)
		want  api.Errno
		left  int
	}{
		{func(x *taker.Taker) { x.Bytes(-1) }, api.ErrArg, 3},
		{func(x *taker.Taker) { x.Little(8) }, api.ErrShort, 3},
		{func(x *taker.Taker) { x.Zeros(3) }, api.ErrZero, 3},
		{func(x *taker.Taker) { x.Bytes(1); x.Big(3) }, api.ErrShort, 2},
	} {
		for _, next := range calls() {
			x := taker.New([]byte{1, 0, 1})
			c.first(x)
			holds(t, x, c.left, c.want)
			if next.does(x) {
				t.Errorf("%s answered something behind %v", next.name, c.want)
			}
			holds(t, x, c.left, c.want)
		}
	}
}

// P2.3: a zero taker has no bytes.
func TestZeroTaker(t *testing.T) {
	var x taker.Taker
	holds(t, &x, 0, api.OK)
	if len(x.Bytes(0)) != 0 || !x.Zeros(0) || x.Fail() != api.OK {
		t.Error(x.Fail())
	}
	if x.Little(1) != 0 {
		t.Error("a number of no bytes")
	}
	holds(t, &x, 0, api.ErrShort)
	for _, b := range [][]byte{nil, {}} {
		y := taker.New(b)
		holds(t, y, 0, api.OK)
		y.Bytes(1)
		holds(t, y, 0, api.ErrShort)
	}
}

// P2.3: of nil nothing is taken.
func TestNilTaker(t *testing.T) {
	var x *taker.Taker
	holds(t, x, 0, api.ErrNil)
	for _, c := range calls() {
		if c.does(x) {
			t.Error(c.name)
		}
		holds(t, x, 0, api.ErrNil)
	}
	if x.Zeros(-1) || x.Big(0) != 0 {
		t.Error("nil")
	}
}

// R2: neither what was handed in nor what is answered is what is kept.
func TestOwnMemory(t *testing.T) {
	in := []byte{1, 2, 3, 4}
	x := taker.New(in)
	in[0], in[3] = 99, 99
	out := x.Bytes(2)
	if !bytes.Equal(out, []byte{1, 2}) {
		t.Error(out)
	}
	_ = append(out, 88, 88)
	if next := x.Bytes(2); !bytes.Equal(next, []byte{3, 4}) {
		t.Error(next)
	}
	if !bytes.Equal(in, []byte{99, 2, 3, 99}) {
		t.Error(in)
	}
}

// R7: a copy goes its own way.
func TestCopy(t *testing.T) {
	x := taker.New([]byte{1, 2, 3})
	x.Bytes(1)
	y := *x
	b := x.Bytes(2)
	b[0], b[1] = 77, 77
	x.Bytes(1)
	holds(t, x, 0, api.ErrShort)
	holds(t, &y, 2, api.OK)
	if b := y.Bytes(2); !bytes.Equal(b, []byte{2, 3}) {
		t.Error(b)
	}
}
