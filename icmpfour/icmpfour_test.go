package icmpfour_test

import (
	"bytes"
	"math/rand"
	"testing"

	"crawlway/addr"
	"crawlway/api"
	"crawlway/icmpfour"
	"crawlway/ipfour"
	"crawlway/ipsix"
	"crawlway/onesum"
	"crawlway/packet"
)

var (
	here  = addr.Four([4]byte{10, 0, 0, 1})
	there = addr.Four([4]byte{192, 168, 255, 254})
)

// plain is a packet with a body of so many bytes.
func plain(t *testing.T, size int) []byte {
	t.Helper()
	body := make([]byte, size)
	rand.New(rand.NewSource(int64(size))).Read(body)
	b, fail := ipfour.Put(api.Head{Class: 5, Id: 77, Flags: 2, Ttl: 9, Proto: 17, Src: here, Dst: there}, body)
	if fail != api.OK {
		t.Fatalf("Put: %v", fail)
	}
	return b
}

// carrying is a packet with such a body, its check made unless it shall be left.
func carrying(t *testing.T, h api.Head, body []byte, make bool) []byte {
	t.Helper()
	h.Src, h.Dst = there, here
	body = bytes.Clone(body)
	if make {
		body[2], body[3] = 0, 0
		check := onesum.Check(body)
		body[2], body[3] = byte(check>>8), byte(check)
	}
	b, fail := ipfour.Put(h, body)
	if fail != api.OK {
		t.Fatalf("Put: %v", fail)
	}
	return b
}

// options is a packet whose body's first bytes are made options.
func options(b []byte, size int) []byte {
	b = bytes.Clone(b)
	b[0] = byte(4*16 + size/4)
	b[10], b[11] = 0, 0
	check := onesum.Check(b[:size])
	b[10], b[11] = byte(check>>8), byte(check)
	return b
}

// P22.1: the message, byte by byte.
func TestMessage(t *testing.T) {
	b := plain(t, 3)
	m, fail := icmpfour.Unreachable(b)
	if fail != api.OK || len(m) != 20+8+23 {
		t.Fatalf("Unreachable: %v, %v", m, fail)
	}
	want := api.Head{V: 4, Size: 20, Total: 51, Class: 192, Ttl: 64, Proto: 1, Src: there, Dst: here}
	if h, fail := ipfour.Parse(m); h != want || fail != api.OK {
		t.Errorf("its head: %v, %v", h, fail)
	}
	if m[20] != 3 || m[21] != 1 || !bytes.Equal(m[24:28], []byte{0, 0, 0, 0}) || !bytes.Equal(m[28:], b) {
		t.Errorf("its body: %v", m[20:])
	}
	check := onesum.Check(m[20:22], []byte{0, 0}, m[24:])
	if m[22] != byte(check>>8) || m[23] != byte(check) || !onesum.Good(m[20:]) {
		t.Errorf("its check: %v, not %d", m[22:24], check)
	}
}

// P22.1, P22.3: packets of every size, of which the message has the front.
func TestSizes(t *testing.T) {
	for _, size := range []int{0, 1, 2, 100, 526, 527, 528, 529, 530, 600, 1480, 65514, 65515} {
		b := plain(t, size)
		m, fail := icmpfour.Unreachable(b)
		front := b[:min(len(b), 548)]
		if fail != api.OK || len(m) != 28+len(front) || len(m) > 576 || !bytes.Equal(m[28:], front) {
			t.Errorf("Unreachable of %d bytes: %d, %v", len(b), len(m), fail)
		}
		if got, fail := icmpfour.Read(m); !bytes.Equal(got, front) || fail != api.OK {
			t.Errorf("Read of the message of %d bytes: %d, %v", len(b), len(got), fail)
		}
		if !packet.Whole(m) || !packet.IsError(m) {
			t.Errorf("the message of %d bytes is not whole, or no error", len(b))
		}
	}
	b := options(plain(t, 50), 60)
	m, fail := icmpfour.Unreachable(b)
	if got, fails := icmpfour.Read(m); !bytes.Equal(got, b) || fail != api.OK || fails != api.OK {
		t.Errorf("of a packet with options: %v, %v, %v", got, fail, fails)
	}
	if h, _ := ipfour.Parse(m); h.Size != 20 || h.Src != there || h.Dst != here {
		t.Errorf("the message of a packet with options: %v", h)
	}
}

// P22.1: messages are told of all packets, of errors and of parts too.
func TestAny(t *testing.T) {
	for _, h := range []api.Head{{Proto: 1}, {Frag: 9}, {Flags: 7, Ttl: 255, Class: 255, Id: 65535}} {
		for _, ends := range [][2]api.Addr{{here, there}, {addr.Four([4]byte{}), there}, {here, addr.Four([4]byte{224, 0, 0, 1})}} {
			h.Src, h.Dst = ends[0], ends[1]
			b, _ := ipfour.Put(h, []byte{3, 1})
			m, fail := icmpfour.Unreachable(b)
			got, _ := ipfour.Parse(m)
			want := api.Head{V: 4, Size: 20, Total: 50, Class: 192, Ttl: 64, Proto: 1, Src: h.Dst, Dst: h.Src}
			if fail != api.OK || got != want {
				t.Errorf("Unreachable of %v: %v, %v", h, got, fail)
			}
		}
	}
}

// P22.1: what is no whole packet of family 4.
func TestArg(t *testing.T) {
	six, _ := ipsix.Put(api.Head{Src: api.Addr{V: 6}, Dst: api.Addr{V: 6}}, []byte{1})
	sum := plain(t, 9)
	sum[12] ^= 1
	for _, b := range [][]byte{nil, {}, {0x45}, {0x50}, six, sum, plain(t, 9)[:28], plain(t, 9)[:19], append(plain(t, 9), 0), append(plain(t, 65515), 0), make([]byte, 40)} {
		if m, fail := icmpfour.Unreachable(b); m != nil || fail != api.ErrArg {
			t.Errorf("Unreachable of %d bytes: %v, %v", len(b), m, fail)
		}
	}
}

// P22.2: what stands behind the four bytes 0, ahead of Total.
func TestRead(t *testing.T) {
	for size := range 40 {
		body := append([]byte{3, 1, 0, 0, 0, 0, 0, 0}, bytes.Repeat([]byte{byte(size)}, size)...)
		b := carrying(t, api.Head{Proto: 1, Ttl: 3, Class: 9, Frag: 5}, body, true)
		for _, more := range []int{0, 1, 9} {
			long := append(bytes.Clone(b), bytes.Repeat([]byte{255}, more)...)
			if got, fail := icmpfour.Read(long); !bytes.Equal(got, body[8:]) || fail != api.OK {
				t.Errorf("Read of %d bytes and %d more: %v, %v", len(b), more, got, fail)
			}
		}
	}
	inner := []byte{3, 1, 0, 0, 0, 0, 0, 0, 42}
	check := onesum.Check(inner)
	inner[2], inner[3] = byte(check>>8), byte(check)
	b := options(carrying(t, api.Head{Proto: 1}, append([]byte{1, 2, 3, 4}, inner...), false), 24)
	if got, fail := icmpfour.Read(b); !bytes.Equal(got, []byte{42}) || fail != api.OK {
		t.Errorf("Read with options: %v, %v", got, fail)
	}
	large := append([]byte{3, 1, 0, 0, 0, 0, 0, 0}, make([]byte, 65507)...)
	if got, fail := icmpfour.Read(carrying(t, api.Head{Proto: 1}, large, true)); len(got) != 65507 || fail != api.OK {
		t.Errorf("Read of the longest: %d, %v", len(got), fail)
	}
}

// P22.2: the errors, each ahead of those named behind it.
func TestReadErrors(t *testing.T) {
	m, _ := icmpfour.Unreachable(plain(t, 9))
	sum := bytes.Clone(m)
	sum[1] ^= 1
	six, _ := ipsix.Put(api.Head{Proto: 58, Src: api.Addr{V: 6}, Dst: api.Addr{V: 6}}, []byte{1, 0, 0, 0, 0, 0, 0, 0})
	icmp, udp := api.Head{Proto: 1}, api.Head{Proto: 17}
	for _, c := range []struct {
		what string
		b    []byte
		want api.Errno
	}{
		{"no bytes", nil, api.ErrShort},
		{"a head that is cut", m[:19], api.ErrShort},
		{"a body that is cut", m[:len(m)-1], api.ErrShort},
		{"family 6", six, api.ErrKind},
		{"a small size", append([]byte{0x44}, m[1:]...), api.ErrForm},
		{"a bad head", sum, api.ErrSum},
		{"another protocol", carrying(t, udp, []byte{3, 1, 0, 0, 0, 0, 0, 0}, true), api.ErrKind},
		{"another protocol, short", carrying(t, udp, []byte{3}, false), api.ErrKind},
		{"another protocol of messages", carrying(t, api.Head{Proto: 58}, []byte{3, 1, 0, 0, 0, 0, 0, 0}, true), api.ErrKind},
		{"no body", carrying(t, icmp, nil, false), api.ErrShort},
		{"seven bytes", carrying(t, icmp, []byte{9, 9, 9, 9, 9, 9, 9}, false), api.ErrShort},
		{"seven bytes, and more behind", append(carrying(t, icmp, []byte{3, 1, 252, 254, 0, 0, 0}, false), 0, 0), api.ErrShort},
		{"another kind", carrying(t, icmp, []byte{4, 1, 0, 0, 0, 0, 0, 0}, true), api.ErrKind},
		{"another code", carrying(t, icmp, []byte{3, 0, 0, 0, 0, 0, 0, 0}, true), api.ErrKind},
		{"family 6's kind", carrying(t, icmp, []byte{1, 0, 0, 0, 0, 0, 0, 0}, true), api.ErrKind},
		{"another kind, not good", carrying(t, icmp, []byte{3, 3, 3, 3, 3, 3, 3, 3}, false), api.ErrKind},
		{"not good", carrying(t, icmp, []byte{3, 1, 0, 0, 0, 0, 0, 0}, false), api.ErrSum},
		{"not good, and not 0", carrying(t, icmp, []byte{3, 1, 0, 0, 1, 0, 0, 0}, false), api.ErrSum},
		{"the first one is not 0", carrying(t, icmp, []byte{3, 1, 0, 0, 1, 0, 0, 0}, true), api.ErrZero},
		{"the second one is not 0", carrying(t, icmp, []byte{3, 1, 0, 0, 0, 128, 0, 0}, true), api.ErrZero},
		{"the third one is not 0", carrying(t, icmp, []byte{3, 1, 0, 0, 0, 0, 1, 0, 5}, true), api.ErrZero},
		{"the fourth one is not 0", carrying(t, icmp, []byte{3, 1, 0, 0, 0, 0, 0, 255, 5, 6}, true), api.ErrZero},
	} {
		if got, fail := icmpfour.Read(c.b); got != nil || fail != c.want {
			t.Errorf("Read of %s: %v, %v, not %v", c.what, got, fail, c.want)
		}
	}
}

// P22.2: the sum counts all behind the head up to Total, and no more.
func TestSum(t *testing.T) {
	m, _ := icmpfour.Unreachable(plain(t, 10))
	for bit := 8 * 22; bit < 8*len(m); bit++ {
		b := bytes.Clone(m)
		b[bit/8] ^= 1 << (bit % 8)
		if got, fail := icmpfour.Read(b); got != nil || fail != api.ErrSum {
			t.Errorf("Read with bit %d turned: %v, %v", bit, got, fail)
		}
	}
}

// P1: whatever the bytes are, both calls answer.
func TestWild(t *testing.T) {
	source := rand.New(rand.NewSource(22))
	for range 20000 {
		m, _ := icmpfour.Unreachable(plain(t, source.Intn(40)))
		for range source.Intn(3) {
			m[source.Intn(len(m))] ^= 1 << source.Intn(8)
		}
		b := m[:source.Intn(len(m)+1)]
		if got, fail := icmpfour.Read(b); fail != api.OK && got != nil {
			t.Errorf("Read(%v): %v, %v", b, got, fail)
		}
		if got, fail := icmpfour.Unreachable(b); (fail == api.OK) != packet.Whole(b) || (fail != api.OK && got != nil) {
			t.Errorf("Unreachable(%v): %v, %v", b, got, fail)
		}
	}
}

// R2: what is answered is new, and what was handed in is as it was.
func TestAnew(t *testing.T) {
	for _, size := range []int{1, 600} {
		b := append(make([]byte, 0, 999), plain(t, size)...)
		kept := bytes.Clone(b)
		m, _ := icmpfour.Unreachable(b)
		sent := bytes.Clone(m)
		got, _ := icmpfour.Read(m)
		got[0] ^= 255
		if !bytes.Equal(m, sent) {
			t.Errorf("the message is changed: %v", m)
		}
		m[28] ^= 255
		if !bytes.Equal(b, kept) || !bytes.Equal(b[:999][len(b):], make([]byte, 999-len(b))) {
			t.Errorf("the packet is changed: %v", b)
		}
	}
}

// The chapter's example.
func TestExample(t *testing.T) {
	b := plain(t, 1)
	if m, fail := icmpfour.Unreachable(b); len(b) != 21 || len(m) != 49 || fail != api.OK || icmpfour.Most != 548 {
		t.Errorf("Unreachable of %d bytes: %v, %v", len(b), m, fail)
	}
}
