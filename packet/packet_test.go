package packet_test

import (
	"bytes"
	"math/rand"
	"slices"
	"testing"

	"crawlway/addr"
	"crawlway/api"
	"crawlway/ipfour"
	"crawlway/ipsix"
	"crawlway/onesum"
	"crawlway/packet"
)

// four is a packet of family 4.
func four(t *testing.T, h api.Head, body ...byte) []byte {
	t.Helper()
	h.Src, h.Dst = addr.Four([4]byte{10, 0, 0, 1}), addr.Four([4]byte{10, 0, 0, 2})
	b, fail := ipfour.Put(h, body)
	if fail != api.OK {
		t.Fatalf("Put(%v): %v", h, fail)
	}
	return b
}

// six is a packet of family 6.
func six(t *testing.T, h api.Head, body ...byte) []byte {
	t.Helper()
	h.Src, h.Dst = addr.Six([16]byte{15: 1}), addr.Six([16]byte{15: 2})
	b, fail := ipsix.Put(h, body)
	if fail != api.OK {
		t.Fatalf("Put(%v): %v", h, fail)
	}
	return b
}

// options is a packet of family 4, its body made options and the rest.
func options(b []byte, size int) []byte {
	b = bytes.Clone(b)
	b[0] = byte(4*16 + size/4)
	b[10], b[11] = 0, 0
	check := onesum.Check(b[:size])
	b[10], b[11] = byte(check>>8), byte(check)
	return b
}

// longest is the longest packet of family 6 that a head has room for, longer than a packet may be.
func longest(t *testing.T, h api.Head, body ...byte) []byte {
	t.Helper()
	b := append(six(t, h, body...), make([]byte, 65535-len(body))...)
	b[4], b[5] = 255, 255
	return b
}

// P21.1: which family it is tells the first byte; all else the layer below.
func TestParse(t *testing.T) {
	for _, body := range [][]byte{nil, {1}, make([]byte, 100)} {
		for first := range 256 {
			for _, b := range [][]byte{four(t, api.Head{Class: 3}, body...), six(t, api.Head{Id: 5}, body...)} {
				b[0] = byte(first)
				h, fail := packet.Parse(b)
				want, wanted := api.Head{}, api.ErrKind
				switch first / 16 {
				case 4:
					want, wanted = ipfour.Parse(b)
				case 6:
					want, wanted = ipsix.Parse(b)
				}
				if h != want || fail != wanted {
					t.Errorf("Parse, first %d: %v, %v", first, h, fail)
				}
			}
		}
	}
}

// P21.1: heads of both families, and the errors of both layers.
func TestFamilies(t *testing.T) {
	if h, fail := packet.Parse(four(t, api.Head{Class: 3, Frag: 9, Proto: 6}, 1, 2)); fail != api.OK || h.V != 4 || h.Total != 22 || h.Class != 3 || h.Frag != 9 {
		t.Errorf("Parse: %v, %v", h, fail)
	}
	if h, fail := packet.Parse(six(t, api.Head{Class: 3, Id: 9, Proto: 6}, 1, 2)); fail != api.OK || h.V != 6 || h.Total != 42 || h.Class != 3 || h.Id != 9 {
		t.Errorf("Parse: %v, %v", h, fail)
	}
	sum := four(t, api.Head{})
	sum[1] = 1
	for _, c := range []struct {
		b    []byte
		want api.Errno
	}{
		{nil, api.ErrShort},
		{[]byte{}, api.ErrShort},
		{[]byte{0x40}, api.ErrShort},
		{[]byte{0x6f}, api.ErrShort},
		{[]byte{0x50}, api.ErrKind},
		{[]byte{0}, api.ErrKind},
		{[]byte{0xff}, api.ErrKind},
		{[]byte{0x04}, api.ErrKind},
		{[]byte{0x16}, api.ErrKind},
		{make([]byte, 100), api.ErrKind},
		{append([]byte{0x44}, make([]byte, 30)...), api.ErrForm},
		{sum, api.ErrSum},
		{four(t, api.Head{}, 1)[:20], api.ErrShort},
		{six(t, api.Head{}, 1)[:40], api.ErrShort},
	} {
		if h, fail := packet.Parse(c.b); h != (api.Head{}) || fail != c.want {
			t.Errorf("Parse(%v): %v, %v", c.b, h, fail)
		}
		if b, fail := packet.Strip(c.b); b != nil || fail != c.want {
			t.Errorf("Strip(%v): %v, %v", c.b, b, fail)
		}
		if packet.Whole(c.b) || packet.IsError(c.b) || packet.Later(c.b) {
			t.Errorf("what is not parsed: %v", c.b)
		}
	}
}

// P21.2: just as many bytes as Total says.
func TestWhole(t *testing.T) {
	for _, b := range [][]byte{
		four(t, api.Head{}), four(t, api.Head{Frag: 7}, 1, 2, 3), four(t, api.Head{}, make([]byte, 65515)...), options(four(t, api.Head{}, 1, 2, 3, 4), 24),
		six(t, api.Head{}), six(t, api.Head{Proto: 44}, 1, 2, 3), six(t, api.Head{}, make([]byte, 65495)...),
	} {
		if !packet.Whole(b) {
			t.Errorf("not whole: %d bytes", len(b))
		}
		if packet.Whole(append(bytes.Clone(b), 0)) || packet.Whole(b[:len(b)-1]) {
			t.Errorf("whole, one byte more or less than %d", len(b))
		}
		for _, more := range []int{0, 1, 15, 66000} {
			long := append(bytes.Clone(b), bytes.Repeat([]byte{9}, more)...)
			if got, fail := packet.Strip(long); !bytes.Equal(got, b) || fail != api.OK {
				t.Errorf("Strip of %d bytes and %d more: %d, %v", len(b), more, len(got), fail)
			}
		}
		if got, fail := packet.Strip(b[:len(b)-1]); got != nil || fail != api.ErrShort {
			t.Errorf("Strip of a byte less: %v, %v", got, fail)
		}
	}
}

// P21.2: what is longer than a packet may be is parsed, and cut, but is not whole.
func TestLongest(t *testing.T) {
	b := longest(t, api.Head{})
	if h, fail := packet.Parse(b); h.Total != 65575 || fail != api.OK || packet.Whole(b) {
		t.Errorf("the longest: %v, %v, whole: %t", h, fail, packet.Whole(b))
	}
	if got, fail := packet.Strip(append(bytes.Clone(b), 1)); !bytes.Equal(got, b) || fail != api.OK {
		t.Errorf("Strip of the longest: %d, %v", len(got), fail)
	}
	for total := 65534; total < 65538; total++ {
		b[4], b[5] = byte((total-40)>>8), byte(total-40)
		if packet.Whole(b[:total]) != (total <= 65535) {
			t.Errorf("Whole of %d bytes: %t", total, total > 65535)
		}
	}
}

// P21.3: every kind of every protocol, in both families.
func TestIsError(t *testing.T) {
	errors := []int{3, 4, 5, 11, 12}
	for kind := range 256 {
		for proto := range 256 {
			b := four(t, api.Head{Proto: proto}, byte(kind))
			if got := packet.IsError(b); got != (proto == 1 && slices.Contains(errors, kind)) {
				t.Errorf("IsError, family 4, %d, %d: %t", proto, kind, got)
			}
			b = six(t, api.Head{Proto: proto}, byte(kind))
			if got := packet.IsError(b); got != (proto == 58 && kind < 128) {
				t.Errorf("IsError, family 6, %d, %d: %t", proto, kind, got)
			}
		}
	}
}

// P21.3: parts, bodies without bytes, options, and bytes behind Total.
func TestIsErrorEdges(t *testing.T) {
	for _, c := range []struct {
		what string
		b    []byte
		want bool
	}{
		{"a first part", four(t, api.Head{Proto: 1, Flags: 1}, 3), true},
		{"flags of all kinds", four(t, api.Head{Proto: 1, Flags: 7}, 11, 0), true},
		{"a second part", four(t, api.Head{Proto: 1, Frag: 1}, 3), false},
		{"a last part", four(t, api.Head{Proto: 1, Frag: 8191}, 3), false},
		{"no body", four(t, api.Head{Proto: 1}), false},
		{"no body, and more behind", append(four(t, api.Head{Proto: 1}), 3, 3), false},
		{"a body, and more behind", append(four(t, api.Head{Proto: 1}, 3), 8, 8), true},
		{"another body, and more behind", append(four(t, api.Head{Proto: 1}, 8), 3, 3), false},
		{"options", options(four(t, api.Head{Proto: 1}, 8, 8, 8, 8, 3), 24), true},
		{"options of errors", options(four(t, api.Head{Proto: 1}, 3, 3, 3, 3, 8), 24), false},
		{"options alone", options(four(t, api.Head{Proto: 1}, 3, 3, 3, 3), 24), false},
		{"options alone, and more behind", append(options(four(t, api.Head{Proto: 1}, 3, 3, 3, 3), 24), 3), false},
		{"cut", four(t, api.Head{Proto: 1}, 3, 3)[:21], false},
		{"no body, family 6", six(t, api.Head{Proto: 58}), false},
		{"no body, and more behind, family 6", append(six(t, api.Head{Proto: 58}), 1), false},
		{"a body, and more behind, family 6", append(six(t, api.Head{Proto: 58}, 127), 128), true},
		{"another body, and more behind, family 6", append(six(t, api.Head{Proto: 58}, 128), 1), false},
		{"cut, family 6", six(t, api.Head{Proto: 58}, 1, 1)[:41], false},
		{"the longest", longest(t, api.Head{Proto: 58}, 1), true},
		{"family 6, the other's protocol", six(t, api.Head{Proto: 1}, 3), false},
		{"family 4, the other's protocol", four(t, api.Head{Proto: 58}, 3), false},
	} {
		if got := packet.IsError(c.b); got != c.want {
			t.Errorf("IsError of %s: %t", c.what, got)
		}
	}
}

// P21.4: in family 4 the head tells.
func TestLaterFour(t *testing.T) {
	for frag := range 8192 {
		for flags := range 8 {
			if got := packet.Later(four(t, api.Head{Frag: frag, Flags: flags, Proto: 17})); got != (frag != 0) {
				t.Errorf("Later of %d, %d: %t", frag, flags, got)
			}
		}
	}
	if packet.Later(four(t, api.Head{Proto: 44}, 0, 0, 1, 0, 0, 0, 0, 0)) {
		t.Error("Later, family 4, with what tells in family 6")
	}
	if !packet.Later(append(four(t, api.Head{Frag: 1}), 9)) || packet.Later(append(four(t, api.Head{}), 255, 255)) {
		t.Error("Later of a packet with more behind")
	}
}

// P21.4: in family 6 the third and the fourth byte behind the head tell.
func TestLaterSix(t *testing.T) {
	for n := range 65536 {
		b := six(t, api.Head{Proto: 44}, 255, 255, byte(n>>8), byte(n), 255, 255, 255, 255)
		if got := packet.Later(b); got != (n >= 8) {
			t.Errorf("Later of %d: %t", n, got)
		}
	}
	for proto := range 256 {
		b := six(t, api.Head{Proto: proto}, 0, 0, 0, 8, 0, 0, 0, 0)
		if got := packet.Later(b); got != (proto == 44) {
			t.Errorf("Later of protocol %d: %t", proto, got)
		}
	}
	for size := range 20 {
		body := bytes.Repeat([]byte{255}, size)
		if got := packet.Later(six(t, api.Head{Proto: 44}, body...)); got != (size >= 8) {
			t.Errorf("Later of %d bytes: %t", size, got)
		}
		if got := packet.Later(append(six(t, api.Head{Proto: 44}, body...), bytes.Repeat([]byte{255}, 9)...)); got != (size >= 8) {
			t.Errorf("Later of %d bytes, and more behind: %t", size, got)
		}
	}
	if !packet.Later(longest(t, api.Head{Proto: 44}, 0, 0, 0, 9)) || packet.Later(longest(t, api.Head{Proto: 44})) {
		t.Error("Later of the longest")
	}
}

// P1: whatever the bytes are, every call answers, and all agree on whether they are a packet.
func TestWild(t *testing.T) {
	source := rand.New(rand.NewSource(21))
	for range 20000 {
		b := make([]byte, source.Intn(120))
		source.Read(b)
		if len(b) > 4 {
			b[0] = []byte{0x45, 0x46, 0x60, 0x6f}[b[0]%4]
			b[2], b[4] = 0, 0
		}
		_, fail := packet.Parse(b)
		if _, cut := packet.Strip(b); cut != fail {
			t.Errorf("Strip(%v): %v, not %v", b, cut, fail)
		}
		if (packet.Whole(b) || packet.IsError(b) || packet.Later(b)) && fail != api.OK {
			t.Errorf("not parsed: %v", b)
		}
	}
}

// R2: what is cut is new, and what was handed in is as it was.
func TestAnew(t *testing.T) {
	for _, b := range [][]byte{four(t, api.Head{}, 1, 2), six(t, api.Head{}, 1, 2)} {
		kept := bytes.Clone(b)
		got, _ := packet.Strip(b)
		for i := range got {
			got[i] ^= 255
		}
		packet.Whole(b)
		packet.IsError(b)
		packet.Later(b)
		if !bytes.Equal(b, kept) {
			t.Errorf("changed: %v", b)
		}
		long := append(bytes.Clone(kept), 7)
		got, _ = packet.Strip(long)
		_ = append(got, 9)
		if long[len(kept)] != 7 {
			t.Errorf("what stood behind is changed: %v", long)
		}
	}
}

// The chapter's example.
func TestExample(t *testing.T) {
	if h, fail := packet.Parse(nil); h != (api.Head{}) || fail != api.ErrShort {
		t.Errorf("Parse of no bytes: %v, %v", h, fail)
	}
}
