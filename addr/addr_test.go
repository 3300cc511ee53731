package addr_test

import (
	"bytes"
	"math"
	"math/rand"
	"slices"
	"testing"

	"crawlway/addr"
	"crawlway/api"
)

// parsed is the address of a text that is right.
func parsed(t *testing.T, s string) api.Addr {
	t.Helper()
	a, fail := addr.Parse(s)
	if fail != api.OK {
		t.Fatalf("Parse(%s): %v", s, fail)
	}
	return a
}

// wrong are addresses that are not right: of no family, or of family 4 with a byte too many.
func wrong() []api.Addr {
	list := []api.Addr{{}, {V: 5}, {V: 3}, {V: 7}, {V: -4}, {V: -6}, {V: 46}, {V: math.MaxInt}, {V: math.MinInt}, {V: 0, B: [16]byte{10, 0, 0, 1}}, {V: 16, B: [16]byte{255, 2}}}
	for i := 4; i < 16; i++ {
		low, high := api.Addr{V: 4, B: [16]byte{224}}, api.Addr{V: 4}
		low.B[i], high.B[i] = 1, 128
		list = append(list, low, high)
	}
	return list
}

// right are addresses of both families: none, all and single bits, and any bytes.
func right() []api.Addr {
	var list []api.Addr
	source := rand.New(rand.NewSource(10))
	for _, size := range []int{4, 16} {
		rows := [][]byte{make([]byte, size), bytes.Repeat([]byte{255}, size)}
		for i := range 8 * size {
			b := make([]byte, size)
			b[i/8] = 128 >> (i % 8)
			rows = append(rows, b)
		}
		for range 20 {
			b := make([]byte, size)
			source.Read(b)
			rows = append(rows, b)
		}
		for _, b := range rows {
			a := api.Addr{V: 6}
			if size == 4 {
				a.V = 4
			}
			copy(a.B[:], b)
			list = append(list, a)
		}
	}
	return list
}

// bits are the bits of an address, one by one, as the words of the chapter count them.
func bits(a api.Addr) []int {
	size := 4
	if a.V == 6 {
		size = 16
	}
	var list []int
	for _, c := range a.B[:size] {
		for place := 128; place > 0; place /= 2 {
			list = append(list, int(c)/place%2)
		}
	}
	return list
}

// P10.1: an address is right by its family, and by its last bytes.
func TestRight(t *testing.T) {
	for _, a := range wrong() {
		if addr.Right(a) || addr.Width(a) != 0 || len(addr.Bytes(a)) != 0 {
			t.Errorf("%v: %v, %d, %v", a, addr.Right(a), addr.Width(a), addr.Bytes(a))
		}
	}
	for _, a := range right() {
		if !addr.Right(a) || addr.Width(a) != len(bits(a)) || !bytes.Equal(addr.Bytes(a), a.B[:len(bits(a))/8]) {
			t.Errorf("%v: %v, %d, %v", a, addr.Right(a), addr.Width(a), addr.Bytes(a))
		}
	}
}

// P10.1: the addresses of bytes.
func TestOf(t *testing.T) {
	if a := addr.Four([4]byte{1, 2, 3, 4}); a != (api.Addr{V: 4, B: [16]byte{1, 2, 3, 4}}) {
		t.Error(a)
	}
	if a := addr.Six([16]byte{1, 2, 3, 4, 15: 9}); a != (api.Addr{V: 6, B: [16]byte{1, 2, 3, 4, 15: 9}}) {
		t.Error(a)
	}
	for _, a := range right() {
		if got, fail := addr.Of(addr.Bytes(a)); got != a || fail != api.OK {
			t.Errorf("Of(%v): %v, %v", addr.Bytes(a), got, fail)
		}
	}
	for size := range 40 {
		a, fail := addr.Of(bytes.Repeat([]byte{7}, size))
		if size != 4 && size != 16 && (a != (api.Addr{}) || fail != api.ErrForm) {
			t.Errorf("Of %d bytes: %v, %v", size, a, fail)
		}
	}
	if a, fail := addr.Of(nil); a != (api.Addr{}) || fail != api.ErrForm {
		t.Errorf("Of(nil): %v, %v", a, fail)
	}
}

// P10.2: texts of either family.
func TestText(t *testing.T) {
	for want, a := range map[string]api.Addr{
		"0.0.0.0":         {V: 4},
		"10.1.2.3":        {V: 4, B: [16]byte{10, 1, 2, 3}},
		"255.255.255.255": {V: 4, B: [16]byte{255, 255, 255, 255}},
		"::":              {V: 6},
		"::1":             {V: 6, B: [16]byte{15: 1}},
		"a01:203::":       {V: 6, B: [16]byte{10, 1, 2, 3}},
		"::ffff:a01:203":  {V: 6, B: [16]byte{10: 255, 255, 10, 1, 2, 3}},
	} {
		if got := addr.Text(a); got != want {
			t.Errorf("Text(%v): %s", a, got)
		}
	}
	for _, a := range wrong() {
		if got := addr.Text(a); got != "" {
			t.Errorf("Text(%v): %s", a, got)
		}
	}
	for _, a := range right() {
		if got, fail := addr.Parse(addr.Text(a)); got != a || fail != api.OK {
			t.Errorf("Parse(%s): %v, %v", addr.Text(a), got, fail)
		}
	}
}

// P10.2: one colon makes it a text of family 6, whose only error is ErrForm.
func TestParse(t *testing.T) {
	for s, want := range map[string]string{
		"1.2.3.4": "1.2.3.4", "::1.2.3.4": "::102:304", "::ffff:1.2.3.4": "::ffff:102:304", "FE80::1": "fe80::1",
	} {
		if got := addr.Text(parsed(t, s)); got != want {
			t.Errorf("Parse(%s): %s", s, got)
		}
	}
	for s, want := range map[string]api.Errno{
		"": api.ErrForm, "x": api.ErrForm, "1": api.ErrForm, "1.2.3": api.ErrForm, "1.2.3.4.5": api.ErrForm, "1.2.3.04": api.ErrForm, "1.2.3.256": api.ErrRange, "a.2.3.256": api.ErrForm, "256.2.3.a": api.ErrRange, "1.2.3.4/8": api.ErrForm,
		":": api.ErrForm, ":::": api.ErrForm, "1.2.3.4:": api.ErrForm, "1.2.3.256:": api.ErrForm, "::1.2.3.256": api.ErrForm, "256.1.1.1::": api.ErrForm, "::12345": api.ErrForm, "[::1]": api.ErrForm, "1::2::3": api.ErrForm,
	} {
		if a, fail := addr.Parse(s); a != (api.Addr{}) || fail != want {
			t.Errorf("Parse(%q): %v, %v", s, a, fail)
		}
	}
}

// P10.3: the family, then the first byte that is unlike.
func TestLess(t *testing.T) {
	order := []string{"0.0.0.0", "0.0.0.1", "1.0.0.0", "9.255.255.255", "10.0.0.0", "127.0.0.1", "128.0.0.0", "255.255.255.255", "::", "::1", "0:1::", "100::", "7fff::", "8000::", "fe80::1:ffff", "fe80::2:0", "ffff::"}
	for i, s := range order {
		for j, x := range order {
			if addr.Less(parsed(t, s), parsed(t, x)) != (i < j) {
				t.Errorf("Less(%s, %s) is not %v", s, x, i < j)
			}
		}
	}
	for _, a := range right() {
		for _, b := range right() {
			want := a.V < b.V || a.V == b.V && slices.Compare(bits(a), bits(b)) < 0
			if addr.Less(a, b) != want {
				t.Errorf("Less(%v, %v) is not %v", a, b, want)
			}
		}
	}
}

// P10.4: a bit by its place, and no other one.
func TestBit(t *testing.T) {
	for _, a := range right() {
		list := bits(a)
		for i, want := range list {
			if got := addr.Bit(a, i); got != want {
				t.Errorf("Bit(%v, %d): %d", a, i, got)
			}
		}
		for _, i := range []int{-1, -8, len(list), len(list) + 1, 128, 1 << 40, math.MaxInt, math.MinInt} {
			if got := addr.Bit(a, i); got != -1 {
				t.Errorf("Bit(%v, %d): %d", a, i, got)
			}
		}
	}
	for _, a := range wrong() {
		for _, i := range []int{-1, 0, 1, 31, 32, 127} {
			if got := addr.Bit(a, i); got != -1 {
				t.Errorf("Bit(%v, %d): %d", a, i, got)
			}
		}
	}
}

// P10.4: the first bits stay, all others are 0.
func TestMask(t *testing.T) {
	for _, a := range right() {
		for _, n := range []int{math.MinInt, math.MinInt + 1, -129, -1, 0, 1, 7, 8, 9, 15, 16, 17, 23, 24, 25, 30, 31, 32, 33, 63, 64, 65, 100, 127, 128, 129, 256, math.MaxInt - 1, math.MaxInt} {
			was, got := a, addr.Mask(a, n)
			if a != was || got.V != a.V || !addr.Right(got) {
				t.Errorf("Mask(%v, %d): %v", a, n, got)
			}
			want := bits(a)
			for i := max(n, 0); i < len(want); i++ {
				want[i] = 0
			}
			if !slices.Equal(bits(got), want) {
				t.Errorf("Mask(%v, %d): %v", a, n, got)
			}
		}
	}
	for _, a := range wrong() {
		for _, n := range []int{-1, 0, 8, 32, 128} {
			if got := addr.Mask(a, n); got != (api.Addr{}) {
				t.Errorf("Mask(%v, %d): %v", a, n, got)
			}
		}
	}
}

// P10.4: how many first bits are the same.
func TestCommon(t *testing.T) {
	list := right()
	for _, a := range list {
		for _, b := range list {
			want := 0
			if a.V != b.V {
				want = -1
			} else {
				x, y := bits(a), bits(b)
				for want < len(x) && x[want] == y[want] {
					want++
				}
			}
			if got := addr.Common(a, b); got != want {
				t.Errorf("Common(%v, %v): %d", a, b, got)
			}
		}
	}
	for _, a := range wrong() {
		for _, b := range []api.Addr{{V: 4}, {V: 6}, a, {}} {
			if addr.Common(a, b) != -1 || addr.Common(b, a) != -1 {
				t.Errorf("Common(%v, %v): %d, %d", a, b, addr.Common(a, b), addr.Common(b, a))
			}
		}
	}
}

// The chapter's examples.
func TestExamples(t *testing.T) {
	if got := addr.Text(addr.Mask(parsed(t, "10.1.2.3"), 9)); got != "10.0.0.0" {
		t.Error(got)
	}
	if got := addr.Common(parsed(t, "10.0.0.1"), parsed(t, "10.0.0.2")); got != 30 {
		t.Error(got)
	}
}

// P10.5: all bytes 0, of either family.
func TestUnspecified(t *testing.T) {
	for _, a := range right() {
		if addr.Unspecified(a) != (a.B == [16]byte{}) {
			t.Errorf("Unspecified(%v): %v", a, addr.Unspecified(a))
		}
	}
	for _, a := range wrong() {
		if addr.Unspecified(a) {
			t.Errorf("Unspecified(%v)", a)
		}
	}
}

// P10.5: the first four bits, or the first byte, all of it.
func TestMulticast(t *testing.T) {
	for c := range 256 {
		for _, last := range []byte{0, 1, 255} {
			four, six := addr.Four([4]byte{byte(c), 0, last, last}), addr.Six([16]byte{0: byte(c), 15: last})
			if addr.Multicast(four) != (c >= 224 && c <= 239) {
				t.Errorf("Multicast(%v): %v", four, addr.Multicast(four))
			}
			if addr.Multicast(six) != (c == 255) {
				t.Errorf("Multicast(%v): %v", six, addr.Multicast(six))
			}
		}
	}
	for _, v := range []int{0, 3, 5, 7, -4, -6} {
		for c := range 256 {
			if a := (api.Addr{V: v, B: [16]byte{byte(c)}}); addr.Multicast(a) {
				t.Errorf("Multicast(%v)", a)
			}
		}
	}
	for _, a := range wrong() {
		if addr.Multicast(a) {
			t.Errorf("Multicast(%v)", a)
		}
	}
}

// R2: bytes that are handed in or answered go their own way.
func TestAnew(t *testing.T) {
	for _, b := range [][]byte{make([]byte, 4), make([]byte, 16)} {
		a, _ := addr.Of(b)
		b[0] = 1
		out := addr.Bytes(a)
		out[1] = 1
		if !addr.Unspecified(a) || b[1] != 0 || !bytes.Equal(addr.Bytes(a), make([]byte, len(b))) {
			t.Errorf("%v, %v", a, b)
		}
	}
}
