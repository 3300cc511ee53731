package endian_test

import (
	"bytes"
	"encoding/binary"
	"math"
	"math/bits"
	"testing"

	"crawlway/api"
	"crawlway/endian"
)

// some numbers, the edges of all sizes among them.
func some() []uint64 {
	out := []uint64{0, 1, 2, 127, 258, 0x0102030405060708, 0xfedcba9876543210, math.MaxUint64}
	for i := range 64 {
		out = append(out, 1<<i-1, 1<<i, 1<<i+1)
	}
	return out
}

// P1.1: ordinary numbers, in both orders.
func TestWrite(t *testing.T) {
	for _, c := range []struct {
		n    uint64
		size int
		want []byte
	}{
		{258, 4, []byte{2, 1, 0, 0}},
		{0, 1, []byte{0}},
		{255, 1, []byte{255}},
		{0x010203, 3, []byte{3, 2, 1}},
		{0x0102030405060708, 8, []byte{8, 7, 6, 5, 4, 3, 2, 1}},
		{math.MaxUint64, 8, bytes.Repeat([]byte{255}, 8)},
	} {
		got, fail := endian.Little(c.n, c.size)
		if fail != api.OK || !bytes.Equal(got, c.want) {
			t.Errorf("Little(%d, %d): %v, %v", c.n, c.size, got, fail)
		}
		turned := make([]byte, len(c.want))
		for i, b := range c.want {
			turned[len(turned)-1-i] = b
		}
		got, fail = endian.Big(c.n, c.size)
		if fail != api.OK || !bytes.Equal(got, turned) {
			t.Errorf("Big(%d, %d): %v, %v", c.n, c.size, got, fail)
		}
	}
}

// P1.1: sizes that are none, whatever n is, go ahead of numbers that are too great.
func TestWriteFails(t *testing.T) {
	for _, size := range []int{math.MinInt, -8, -1, 0, 9, 16, 64, math.MaxInt} {
		for _, n := range []uint64{0, 1, math.MaxUint64} {
			if b, fail := endian.Little(n, size); fail != api.ErrArg || len(b) != 0 {
				t.Errorf("Little(%d, %d): %v, %v", n, size, b, fail)
			}
			if b, fail := endian.Big(n, size); fail != api.ErrArg || len(b) != 0 {
				t.Errorf("Big(%d, %d): %v, %v", n, size, b, fail)
			}
		}
	}
	for size := 1; size <= 7; size++ {
		for _, n := range []uint64{1 << (8 * size), 1<<(8*size) + 1, math.MaxUint64} {
			if b, fail := endian.Little(n, size); fail != api.ErrRange || len(b) != 0 {
				t.Errorf("Little(%d, %d): %v, %v", n, size, b, fail)
			}
			if b, fail := endian.Big(n, size); fail != api.ErrRange || len(b) != 0 {
				t.Errorf("Big(%d, %d): %v, %v", n, size, b, fail)
			}
		}
		if _, fail := endian.Little(1<<(8*size)-1, size); fail != api.OK {
			t.Errorf("Little of the greatest number of size %d: %v", size, fail)
		}
		if _, fail := endian.Big(1<<(8*size)-1, size); fail != api.OK {
			t.Errorf("Big of the greatest number of size %d: %v", size, fail)
		}
	}
}

// P1.1, P1.2: what is written is as the library writes it, and is read as what was written.
func TestWriteAndRead(t *testing.T) {
	for _, n := range some() {
		for size := 1; size <= 8; size++ {
			if size < 8 && n >= 1<<(8*size) {
				continue
			}
			little, fail := endian.Little(n, size)
			if want := binary.LittleEndian.AppendUint64(nil, n)[:size]; fail != api.OK || !bytes.Equal(little, want) {
				t.Errorf("Little(%d, %d): %v, %v", n, size, little, fail)
			}
			big, fail := endian.Big(n, size)
			if want := binary.BigEndian.AppendUint64(nil, n)[8-size:]; fail != api.OK || !bytes.Equal(big, want) {
				t.Errorf("Big(%d, %d): %v, %v", n, size, big, fail)
			}
			if got, fail := endian.OfLittle(little); got != n || fail != api.OK {
				t.Errorf("OfLittle(%v): %d, %v", little, got, fail)
			}
			if got, fail := endian.OfBig(big); got != n || fail != api.OK {
				t.Errorf("OfBig(%v): %d, %v", big, got, fail)
			}
		}
	}
}

// P1.2: ordinary bytes, and lengths that are none.
func TestRead(t *testing.T) {
	if n, fail := endian.OfLittle([]byte{1, 2, 0}); n != 513 || fail != api.OK {
		t.Error(n, fail)
	}
	if n, fail := endian.OfBig([]byte{1, 2, 0}); n != 66048 || fail != api.OK {
		t.Error(n, fail)
	}
	for _, b := range [][]byte{nil, {}, make([]byte, 9), bytes.Repeat([]byte{7}, 9), bytes.Repeat([]byte{255}, 1000)} {
		if n, fail := endian.OfLittle(b); n != 0 || fail != api.ErrArg {
			t.Errorf("OfLittle of %d bytes: %d, %v", len(b), n, fail)
		}
		if n, fail := endian.OfBig(b); n != 0 || fail != api.ErrArg {
			t.Errorf("OfBig of %d bytes: %d, %v", len(b), n, fail)
		}
	}
}

// R2: what is handed in is not changed, and each answer is memory of its own.
func TestWriteAnew(t *testing.T) {
	in := []byte{1, 2, 3}
	endian.OfLittle(in)
	endian.OfBig(in)
	endian.Ones(in)
	if !bytes.Equal(in, []byte{1, 2, 3}) {
		t.Error(in)
	}
	for _, write := range []func(uint64, int) ([]byte, api.Errno){endian.Little, endian.Big} {
		a, _ := write(7, 2)
		want := bytes.Clone(a)
		a[0], a[1] = 99, 99
		if b, _ := write(7, 2); !bytes.Equal(b, want) {
			t.Error(b)
		}
	}
}

// P1.3: every number of ones, and those that are none.
func TestMask(t *testing.T) {
	want := uint64(0)
	for n := 0; n <= 64; n++ {
		if got := endian.Mask(n); got != want {
			t.Errorf("Mask(%d): %x", n, got)
		}
		want = want<<1 | 1
	}
	for _, n := range []int{-1, -64, math.MinInt} {
		if got := endian.Mask(n); got != 0 {
			t.Errorf("Mask(%d): %x", n, got)
		}
	}
	for _, n := range []int{65, 128, math.MaxInt} {
		if got := endian.Mask(n); got != math.MaxUint64 {
			t.Errorf("Mask(%d): %x", n, got)
		}
	}
}

// P1.3: bits turned either way, by any number of places.
func TestTurn(t *testing.T) {
	for _, c := range []struct {
		n    uint32
		by   int
		want uint32
	}{
		{1, -1, 1 << 31},
		{1, 1, 2},
		{1 << 31, 1, 1},
		{5, 0, 5},
		{5, 33, 10},
		{5, -33, 1<<31 | 2},
		{0x12345678, 8, 0x34567812},
		{0x12345678, -8, 0x78123456},
		{0x12345678, math.MinInt, 0x12345678},
		{0x12345678, math.MaxInt, 0x091a2b3c},
	} {
		if got := endian.Turn(c.n, c.by); got != c.want {
			t.Errorf("Turn(%x, %d): %x", c.n, c.by, got)
		}
	}
	for _, n := range some() {
		for by := -100; by <= 100; by++ {
			if got, want := endian.Turn(uint32(n), by), bits.RotateLeft32(uint32(n), by); got != want {
				t.Errorf("Turn(%x, %d): %x, not %x", uint32(n), by, got, want)
			}
		}
	}
}

// P1.4: ones ahead of the first 0, wherever it stands.
func TestOnes(t *testing.T) {
	for _, c := range []struct {
		b    []byte
		want int
	}{
		{nil, 0},
		{[]byte{}, 0},
		{[]byte{0}, 0},
		{[]byte{127, 255}, 0},
		{[]byte{255, 240}, 12},
		{[]byte{255, 0, 255}, 8},
		{[]byte{254, 255}, 7},
		{[]byte{255, 255, 255, 255}, 32},
		{[]byte{255, 247}, 12},
		{[]byte{0xaa}, 1},
	} {
		if got := endian.Ones(c.b); got != c.want {
			t.Errorf("Ones(%v): %d", c.b, got)
		}
	}
	for n := range 129 {
		b := bytes.Repeat([]byte{255}, 16)
		if n < 128 {
			b[n/8] &^= 128 >> (n % 8)
		}
		if got := endian.Ones(b); got != n {
			t.Errorf("Ones(%v): %d", b, got)
		}
	}
}
