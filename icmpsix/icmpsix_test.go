package icmpsix_test

import (
	"bytes"
	"math/rand"
	"testing"

	"crawlway/addr"
	"crawlway/api"
	"crawlway/icmpsix"
	"crawlway/ipfour"
	"crawlway/ipsix"
	"crawlway/onesum"
	"crawlway/packet"
)

var (
	here  = addr.Six([16]byte{0x20, 1, 0x0d, 0xb8, 4, 5, 6, 7, 8, 9, 10, 11, 12, 13, 14, 15})
	there = addr.Six([16]byte{0xfd, 0x80, 15: 1})
)

// plain is a packet with a body of so many bytes.
func plain(t *testing.T, size int) []byte {
	t.Helper()
	body := make([]byte, size)
	rand.New(rand.NewSource(int64(size))).Read(body)
	b, fail := ipsix.Put(api.Head{Class: 5, Id: 77, Ttl: 9, Proto: 17, Src: here, Dst: there}, body)
	if fail != api.OK {
		t.Fatalf("Put: %v", fail)
	}
	return b
}

// counted is what the check of a packet counts: what stands ahead, laid out in one row, and the body.
func counted(b []byte) []byte {
	size := len(b) - 40
	row := append(bytes.Clone(b[8:40]), byte(size>>24), byte(size>>16), byte(size>>8), byte(size), 0, 0, 0, 58)
	return append(row, b[40:]...)
}

// carrying is a packet with such a body, its check made unless it shall be left.
func carrying(t *testing.T, h api.Head, body []byte, make bool) []byte {
	t.Helper()
	h.Src, h.Dst = there, here
	b, fail := ipsix.Put(h, body)
	if fail != api.OK {
		t.Fatalf("Put: %v", fail)
	}
	if make {
		b[42], b[43] = 0, 0
		check := onesum.Check(counted(b))
		b[42], b[43] = byte(check>>8), byte(check)
	}
	return b
}

// P23.1: the message, byte by byte.
func TestMessage(t *testing.T) {
	b := plain(t, 3)
	m, fail := icmpsix.Unreachable(b)
	if fail != api.OK || len(m) != 40+8+43 {
		t.Fatalf("Unreachable: %v, %v", m, fail)
	}
	want := api.Head{V: 6, Size: 40, Total: 91, Ttl: 64, Proto: 58, Src: there, Dst: here}
	if h, fail := ipsix.Parse(m); h != want || fail != api.OK {
		t.Errorf("its head: %v, %v", h, fail)
	}
	if m[40] != 1 || m[41] != 0 || !bytes.Equal(m[44:48], []byte{0, 0, 0, 0}) || !bytes.Equal(m[48:], b) {
		t.Errorf("its body: %v", m[40:])
	}
	check := m[42:44]
	row := counted(m)
	row[42], row[43] = 0, 0
	if sum := onesum.Check(row); check[0] != byte(sum>>8) || check[1] != byte(sum) {
		t.Errorf("its check: %v, not %d", check, sum)
	}
}

// P23.1: a message whose check was reckoned by hand.
func TestByHand(t *testing.T) {
	b, _ := ipsix.Put(api.Head{Src: addr.Six([16]byte{15: 1}), Dst: addr.Six([16]byte{15: 2})}, nil)
	// Ahead: 1 and 2 of the addresses, 48 bytes, 58. Behind: 256 of 1, 0; 0x6000, 1 and 2 of the packet.
	sum := 1 + 2 + 48 + 58 + 256 + 0x6000 + 1 + 2
	if m, fail := icmpsix.Unreachable(b); fail != api.OK || int(m[42])*256+int(m[43]) != 65535-sum {
		t.Errorf("Unreachable: %v, %v", m, fail)
	}
}

// P23.1, P23.3: packets of every size, of which the message has the front.
func TestSizes(t *testing.T) {
	for _, size := range []int{0, 1, 2, 100, 1190, 1191, 1192, 1193, 1194, 1480, 2000, 65494, 65495} {
		b := plain(t, size)
		m, fail := icmpsix.Unreachable(b)
		front := b[:min(len(b), 1232)]
		if fail != api.OK || len(m) != 48+len(front) || len(m) > 1280 || !bytes.Equal(m[48:], front) || !onesum.Good(counted(m)) {
			t.Errorf("Unreachable of %d bytes: %d, %v", len(b), len(m), fail)
		}
		if got, fail := icmpsix.Read(m); !bytes.Equal(got, front) || fail != api.OK {
			t.Errorf("Read of the message of %d bytes: %d, %v", len(b), len(got), fail)
		}
		if !packet.Whole(m) || !packet.IsError(m) {
			t.Errorf("the message of %d bytes is not whole, or no error", len(b))
		}
	}
}

// P23.1: messages are told of all packets, of errors and of parts too.
func TestAny(t *testing.T) {
	for _, h := range []api.Head{{Proto: 58}, {Proto: 44}, {Ttl: 255, Class: 255, Id: 1048575}} {
		for _, ends := range [][2]api.Addr{{here, there}, {{V: 6}, there}, {here, addr.Six([16]byte{255, 2, 15: 1})}} {
			h.Src, h.Dst = ends[0], ends[1]
			b, _ := ipsix.Put(h, []byte{1, 0, 255, 255, 0, 0, 0, 0})
			m, fail := icmpsix.Unreachable(b)
			got, _ := ipsix.Parse(m)
			want := api.Head{V: 6, Size: 40, Total: 96, Ttl: 64, Proto: 58, Src: h.Dst, Dst: h.Src}
			if fail != api.OK || got != want {
				t.Errorf("Unreachable of %v: %v, %v", h, got, fail)
			}
		}
	}
}

// P23.1: what is no whole packet of family 6.
func TestArg(t *testing.T) {
	four, _ := ipfour.Put(api.Head{Src: addr.Four([4]byte{10, 0, 0, 1}), Dst: addr.Four([4]byte{10, 0, 0, 2})}, make([]byte, 50))
	// These heads have room for more than a packet may have.
	long := append(plain(t, 65495), 0)
	long[4], long[5] = 255, 216
	longest := append(plain(t, 65495), make([]byte, 40)...)
	longest[4], longest[5] = 255, 255
	for _, b := range [][]byte{nil, {}, {0x60}, {0x50}, four, plain(t, 9)[:48], plain(t, 9)[:39], append(plain(t, 9), 0), long, longest, make([]byte, 40)} {
		if m, fail := icmpsix.Unreachable(b); m != nil || fail != api.ErrArg {
			t.Errorf("Unreachable of %d bytes: %v, %v", len(b), m, fail)
		}
	}
}

// P23.2: what stands behind the four bytes 0, ahead of Total.
func TestRead(t *testing.T) {
	for size := range 40 {
		body := append([]byte{1, 0, 0, 0, 0, 0, 0, 0}, bytes.Repeat([]byte{byte(size)}, size)...)
		b := carrying(t, api.Head{Proto: 58, Ttl: 3, Class: 9, Id: 5}, body, true)
		for _, more := range []int{0, 1, 9} {
			long := append(bytes.Clone(b), bytes.Repeat([]byte{255}, more)...)
			if got, fail := icmpsix.Read(long); !bytes.Equal(got, body[8:]) || fail != api.OK {
				t.Errorf("Read of %d bytes and %d more: %v, %v", len(b), more, got, fail)
			}
		}
	}
	// It need not be a whole packet: Total may be more than a packet may have.
	longest := append([]byte{0x60, 0, 0, 0, 255, 255, 58, 0}, make([]byte, 32+65535)...)
	longest[40] = 1
	check := onesum.Check(counted(longest))
	longest[42], longest[43] = byte(check>>8), byte(check)
	if got, fail := icmpsix.Read(longest); len(got) != 65527 || fail != api.OK {
		t.Errorf("Read of the longest: %d, %v", len(got), fail)
	}
}

// P23.2: the errors, each ahead of those named behind it.
func TestReadErrors(t *testing.T) {
	m, _ := icmpsix.Unreachable(plain(t, 9))
	four, _ := ipfour.Put(api.Head{Proto: 1, Src: addr.Four([4]byte{10, 0, 0, 1}), Dst: addr.Four([4]byte{10, 0, 0, 2})}, make([]byte, 50))
	icmp, udp := api.Head{Proto: 58}, api.Head{Proto: 17}
	for _, c := range []struct {
		what string
		b    []byte
		want api.Errno
	}{
		{"no bytes", nil, api.ErrShort},
		{"a head that is cut", m[:39], api.ErrShort},
		{"a body that is cut", m[:len(m)-1], api.ErrShort},
		{"family 4", four, api.ErrKind},
		{"another protocol", carrying(t, udp, []byte{1, 0, 0, 0, 0, 0, 0, 0}, true), api.ErrKind},
		{"another protocol, short", carrying(t, udp, []byte{1}, false), api.ErrKind},
		{"another protocol of messages", carrying(t, api.Head{Proto: 1}, []byte{1, 0, 0, 0, 0, 0, 0, 0}, true), api.ErrKind},
		{"no body", carrying(t, icmp, nil, false), api.ErrShort},
		{"seven bytes", carrying(t, icmp, []byte{9, 9, 9, 9, 9, 9, 9}, false), api.ErrShort},
		{"seven bytes, and more behind", append(carrying(t, icmp, []byte{1, 0, 0, 0, 0, 0, 0}, true), 0, 0), api.ErrShort},
		{"another kind", carrying(t, icmp, []byte{2, 0, 0, 0, 0, 0, 0, 0}, true), api.ErrKind},
		{"another code", carrying(t, icmp, []byte{1, 1, 0, 0, 0, 0, 0, 0}, true), api.ErrKind},
		{"family 4's kind", carrying(t, icmp, []byte{3, 1, 0, 0, 0, 0, 0, 0}, true), api.ErrKind},
		{"another kind, not good", carrying(t, icmp, []byte{1, 3, 3, 3, 3, 3, 3, 3}, false), api.ErrKind},
		{"not good", carrying(t, icmp, []byte{1, 0, 0, 0, 0, 0, 0, 0}, false), api.ErrSum},
		{"good without what stands ahead", carrying(t, icmp, []byte{1, 0, 254, 255, 0, 0, 0, 0}, false), api.ErrSum},
		{"not good, and not 0", carrying(t, icmp, []byte{1, 0, 0, 0, 1, 0, 0, 0}, false), api.ErrSum},
		{"the first one is not 0", carrying(t, icmp, []byte{1, 0, 0, 0, 1, 0, 0, 0}, true), api.ErrZero},
		{"the second one is not 0", carrying(t, icmp, []byte{1, 0, 0, 0, 0, 128, 0, 0}, true), api.ErrZero},
		{"the third one is not 0", carrying(t, icmp, []byte{1, 0, 0, 0, 0, 0, 1, 0, 5}, true), api.ErrZero},
		{"the fourth one is not 0", carrying(t, icmp, []byte{1, 0, 0, 0, 0, 0, 0, 255, 5, 6}, true), api.ErrZero},
	} {
		if got, fail := icmpsix.Read(c.b); got != nil || fail != c.want {
			t.Errorf("Read of %s: %v, %v, not %v", c.what, got, fail, c.want)
		}
	}
}

// P23.2: the sum counts the addresses and all behind the head up to Total, and no more.
func TestSum(t *testing.T) {
	m, _ := icmpsix.Unreachable(plain(t, 10))
	for bit := 8 * 8; bit < 8*len(m); bit++ {
		if bit/8 == 40 || bit/8 == 41 {
			continue
		}
		b := bytes.Clone(m)
		b[bit/8] ^= 1 << (bit % 8)
		if got, fail := icmpsix.Read(b); got != nil || fail != api.ErrSum {
			t.Errorf("Read with bit %d turned: %v, %v", bit, got, fail)
		}
	}
	// Bytes 0 behind it would not change the sum of the body, but there are more of them then.
	b := append(bytes.Clone(m), 0, 0)
	b[5] += 2
	if got, fail := icmpsix.Read(b); got != nil || fail != api.ErrSum {
		t.Errorf("Read with two noughts more: %v, %v", got, fail)
	}
}

// P1: whatever the bytes are, both calls answer.
func TestWild(t *testing.T) {
	source := rand.New(rand.NewSource(23))
	for range 20000 {
		m, _ := icmpsix.Unreachable(plain(t, source.Intn(40)))
		for range source.Intn(3) {
			m[source.Intn(len(m))] ^= 1 << source.Intn(8)
		}
		b := m[:source.Intn(len(m)+1)]
		if got, fail := icmpsix.Read(b); fail != api.OK && got != nil {
			t.Errorf("Read(%v): %v, %v", b, got, fail)
		}
		if got, fail := icmpsix.Unreachable(b); (fail == api.OK) != packet.Whole(b) || (fail != api.OK && got != nil) {
			t.Errorf("Unreachable(%v): %v, %v", b, got, fail)
		}
	}
}

// R2: what is answered is new, and what was handed in is as it was.
func TestAnew(t *testing.T) {
	for _, size := range []int{1, 1300} {
		b := append(make([]byte, 0, 1999), plain(t, size)...)
		kept := bytes.Clone(b)
		m, _ := icmpsix.Unreachable(b)
		sent := bytes.Clone(m)
		got, _ := icmpsix.Read(m)
		got[0] ^= 255
		if !bytes.Equal(m, sent) {
			t.Errorf("the message is changed: %v", m)
		}
		m[48] ^= 255
		if !bytes.Equal(b, kept) || !bytes.Equal(b[:1999][len(b):], make([]byte, 1999-len(b))) {
			t.Errorf("the packet is changed: %v", b)
		}
	}
}

// The chapter's example.
func TestExample(t *testing.T) {
	b := plain(t, 1)
	if m, fail := icmpsix.Unreachable(b); len(b) != 41 || len(m) != 89 || fail != api.OK || icmpsix.Most != 1232 {
		t.Errorf("Unreachable of %d bytes: %v, %v", len(b), m, fail)
	}
}
