package ipsix_test

import (
	"bytes"
	"math"
	"math/rand"
	"testing"

	"crawlway/addr"
	"crawlway/api"
	"crawlway/ipsix"
)

var (
	here  = addr.Six([16]byte{0x20, 1, 0x0d, 0xb8, 4, 5, 6, 7, 8, 9, 10, 11, 12, 13, 14, 15})
	there = addr.Six([16]byte{0xfe, 0x80, 15: 1})
)

// raw is a packet with so many bytes behind its head, and more that don't belong to it.
func raw(body, more int) []byte {
	b := make([]byte, 40+body+more)
	rand.New(rand.NewSource(int64(body))).Read(b)
	b[0] = 6*16 + b[0]%16
	b[4], b[5] = byte(body/256), byte(body%256)
	return b
}

// wrong asks for an error, and for nothing beside it.
func wrong(t *testing.T, b []byte, want api.Errno) {
	t.Helper()
	if h, fail := ipsix.Parse(b); fail != want || h != (api.Head{}) {
		t.Errorf("Parse of %d bytes: %v, %v, not %v", len(b), h, fail, want)
	}
}

// P20.1: every field in its place.
func TestParse(t *testing.T) {
	b := append([]byte{0x61, 0x23, 0x45, 0x67, 0, 3, 0x89, 0xab}, addr.Bytes(here)...)
	b = append(append(b, addr.Bytes(there)...), "abc"...)
	want := api.Head{V: 6, Size: 40, Total: 43, Class: 0x12, Id: 0x34567, Proto: 0x89, Ttl: 0xab, Src: here, Dst: there}
	if h, fail := ipsix.Parse(b); h != want || fail != api.OK {
		t.Errorf("Parse: %v, %v", h, fail)
	}
	b = append([]byte{0x60, 0, 0, 0, 0, 0, 0, 0}, make([]byte, 32)...)
	want = api.Head{V: 6, Size: 40, Total: 40, Src: api.Addr{V: 6}, Dst: api.Addr{V: 6}}
	if h, fail := ipsix.Parse(b); h != want || fail != api.OK {
		t.Errorf("Parse of noughts: %v, %v", h, fail)
	}
	b = bytes.Repeat([]byte{255}, 40+65535)
	b[0] = 0x6f
	all := addr.Six([16]byte(b[8:24]))
	want = api.Head{V: 6, Size: 40, Total: 65575, Class: 255, Id: 1048575, Proto: 255, Ttl: 255, Src: all, Dst: all}
	if h, fail := ipsix.Parse(b); h != want || fail != api.OK {
		t.Errorf("Parse of ones: %v, %v", h, fail)
	}
}

// P20.1: every size that the head has room for; what stands behind Total counts for nothing.
func TestSizes(t *testing.T) {
	for _, body := range []int{0, 1, 7, 8, 255, 256, 65494, 65495, 65496, 65534, 65535} {
		b := raw(body, 0)
		want, fail := ipsix.Parse(b)
		if fail != api.OK || want.V != 6 || want.Size != 40 || want.Total != 40+body || want.Flags != 0 || want.Frag != 0 {
			t.Errorf("Parse of %d bytes: %v, %v", len(b), want, fail)
		}
		for _, more := range []int{1, 16, 70000} {
			if h, fail := ipsix.Parse(append(bytes.Clone(b), bytes.Repeat([]byte{255}, more)...)); h != want || fail != api.OK {
				t.Errorf("Parse of %d bytes and %d more: %v, %v", len(b), more, h, fail)
			}
		}
		wrong(t, b[:len(b)-1], api.ErrShort)
	}
}

// P20.1: bytes that are cut anywhere.
func TestShort(t *testing.T) {
	wrong(t, nil, api.ErrShort)
	wrong(t, []byte{}, api.ErrShort)
	b := raw(99, 0)
	for n := range b {
		wrong(t, b[:n], api.ErrShort)
	}
}

// P20.1: the first four bits; too few bytes for a head go ahead of them, too few for Total behind.
func TestFirst(t *testing.T) {
	for first := range 256 {
		b := raw(3, 0)
		b[0] = byte(first)
		if first/16 != 6 {
			wrong(t, b, api.ErrKind)
			wrong(t, b[:42], api.ErrKind)
			wrong(t, b[:40], api.ErrKind)
		} else if h, fail := ipsix.Parse(b); h.V != 6 || h.Class != first%16*16+int(b[1]/16) || fail != api.OK {
			t.Errorf("Parse, first %d: %v, %v", first, h, fail)
		}
		wrong(t, b[:39], api.ErrShort)
	}
}

// P20.2: every field in its place.
func TestPut(t *testing.T) {
	h := api.Head{Class: 0x12, Id: 0x34567, Proto: 0x89, Ttl: 0xab, Src: here, Dst: there}
	want := append([]byte{0x61, 0x23, 0x45, 0x67, 0, 3, 0x89, 0xab}, addr.Bytes(here)...)
	want = append(append(want, addr.Bytes(there)...), "abc"...)
	if b, fail := ipsix.Put(h, []byte("abc")); !bytes.Equal(b, want) || fail != api.OK {
		t.Errorf("Put: %v, %v", b, fail)
	}
	for _, n := range []int{4, 6, -1, 1 << 20, math.MinInt, math.MaxInt} {
		h.V, h.Size, h.Total, h.Flags, h.Frag = n, n, n, n, n
		if b, fail := ipsix.Put(h, []byte("abc")); !bytes.Equal(b, want) || fail != api.OK {
			t.Errorf("Put, of V, Size, Total, Flags and Frag %d: %v, %v", n, b, fail)
		}
	}
}

// P20.2: numbers at both ends of what they may be, and past them, whatever the body.
func TestRange(t *testing.T) {
	h := api.Head{Src: here, Dst: there}
	for field, most := range map[*int]int{&h.Class: 255, &h.Ttl: 255, &h.Proto: 255, &h.Id: 1048575} {
		for _, n := range []int{0, 1, most - 1, most} {
			*field = n
			b, fail := ipsix.Put(h, nil)
			got, _ := ipsix.Parse(b)
			want := h
			want.V, want.Size, want.Total = 6, 40, 40
			if fail != api.OK || got != want {
				t.Errorf("Put(%v): %v, %v", h, b, fail)
			}
		}
		for _, n := range []int{-1, -2, -256, -1048576, most + 1, 2 * (most + 1), 1 << 20, 1 << 32, -1 << 32, math.MaxInt, math.MinInt} {
			*field = n
			for _, size := range []int{0, 65495, 65496} {
				if b, fail := ipsix.Put(h, make([]byte, size)); b != nil || fail != api.ErrArg {
					t.Errorf("Put(%v): %v, %v", h, b, fail)
				}
			}
		}
		*field = 0
	}
}

// P20.2: addresses that are none of family 6.
func TestAddresses(t *testing.T) {
	for _, a := range []api.Addr{{}, {V: 4}, {V: 5}, {V: -6}, {V: 7, B: here.B}, {B: here.B}, {V: 4, B: here.B}, addr.Four([4]byte{10, 0, 0, 1})} {
		for _, h := range []api.Head{{Src: a, Dst: there}, {Src: here, Dst: a}, {Src: a, Dst: a}} {
			for _, size := range []int{0, 65496} {
				if b, fail := ipsix.Put(h, make([]byte, size)); b != nil || fail != api.ErrArg {
					t.Errorf("Put(%v): %v, %v", h, b, fail)
				}
			}
		}
	}
}

// P20.2: bodies up to the most.
func TestBody(t *testing.T) {
	h := api.Head{Src: here, Dst: there}
	for _, size := range []int{0, 1, 2, 255, 256, 65494, 65495} {
		body := bytes.Repeat([]byte{7}, size)
		b, fail := ipsix.Put(h, body)
		if fail != api.OK || len(b) != 40+size || !bytes.Equal(b[40:], body) {
			t.Errorf("Put of %d bytes: %d, %v", size, len(b), fail)
		}
		if got, fail := ipsix.Parse(b); got.Total != 40+size || fail != api.OK {
			t.Errorf("Parse of what was put of %d bytes: %v, %v", size, got, fail)
		}
	}
	for _, size := range []int{65496, 65497, 65515, 65535, 65536, 1 << 17} {
		if b, fail := ipsix.Put(h, make([]byte, size)); b != nil || fail != api.ErrLong {
			t.Errorf("Put of %d bytes: %d, %v", size, len(b), fail)
		}
	}
}

// P20.3: what is put is parsed as it was.
func TestBothWays(t *testing.T) {
	source := rand.New(rand.NewSource(20))
	for i := range 500 {
		h := api.Head{Class: source.Intn(256), Id: source.Intn(1 << 20), Ttl: source.Intn(256), Proto: source.Intn(256), Src: api.Addr{V: 6}, Dst: api.Addr{V: 6}}
		source.Read(h.Src.B[:])
		source.Read(h.Dst.B[:])
		b, fail := ipsix.Put(h, make([]byte, i))
		h.V, h.Size, h.Total = 6, 40, 40+i
		if got, fails := ipsix.Parse(b); fail != api.OK || fails != api.OK || got != h {
			t.Errorf("Parse of what was put: %v, not %v; %v, %v", got, h, fail, fails)
		}
	}
}

// P1: whatever the bytes are, Parse answers, and a head beside OK alone.
func TestWild(t *testing.T) {
	source := rand.New(rand.NewSource(201))
	for range 20000 {
		b := make([]byte, source.Intn(120))
		source.Read(b)
		if len(b) > 4 {
			b[0], b[4] = 0x60+b[0]%32, 0
		}
		h, fail := ipsix.Parse(b)
		if (fail == api.OK) != (h.V == 6) || (fail != api.OK && h != (api.Head{})) {
			t.Errorf("Parse(%v): %v, %v", b, h, fail)
		}
	}
}

// R1, R2: no body is as good as an empty one; what is put is new, and what was handed in is as it was.
func TestAnew(t *testing.T) {
	h := api.Head{Ttl: 9, Src: here, Dst: there}
	none, _ := ipsix.Put(h, nil)
	empty, _ := ipsix.Put(h, []byte{})
	if !bytes.Equal(none, empty) {
		t.Errorf("Put: %v, %v", none, empty)
	}
	body := append(make([]byte, 0, 99), "abc"...)
	b, _ := ipsix.Put(h, body)
	kept := bytes.Clone(b)
	ipsix.Parse(b)
	if !bytes.Equal(b, kept) {
		t.Errorf("Parse changed what it was handed: %v", b)
	}
	for i := range b {
		b[i] = 255
	}
	if string(body) != "abc" || !bytes.Equal(body[:99][3:], make([]byte, 96)) {
		t.Errorf("the body: %v", body[:99])
	}
}

// The chapter's example.
func TestExample(t *testing.T) {
	h := api.Head{Src: addr.Six([16]byte{15: 1}), Dst: addr.Six([16]byte{15: 2})}
	if b, fail := ipsix.Put(h, []byte{1}); len(b) != 41 || b[0] != 96 || fail != api.OK || ipsix.Size != 40 {
		t.Errorf("Put: %v, %v", b, fail)
	}
}
