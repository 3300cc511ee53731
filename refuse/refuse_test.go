package refuse_test

import (
	"bytes"
	"math/rand"
	"testing"

	"crawlway/addr"
	"crawlway/api"
	"crawlway/icmpfour"
	"crawlway/icmpsix"
	"crawlway/ipfour"
	"crawlway/ipsix"
	"crawlway/packet"
	"crawlway/refuse"
)

// at is the address of a text.
func at(t *testing.T, s string) api.Addr {
	t.Helper()
	a, fail := addr.Parse(s)
	if fail != api.OK {
		t.Fatalf("Parse(%s): %v", s, fail)
	}
	return a
}

// put is a packet between two addresses of one family.
func put(t *testing.T, h api.Head, src, dst string, body ...byte) []byte {
	t.Helper()
	h.Src, h.Dst = at(t, src), at(t, dst)
	tell := ipfour.Put
	if h.Src.V == 6 {
		tell = ipsix.Put
	}
	b, fail := tell(h, body)
	if fail != api.OK {
		t.Fatalf("Put(%v): %v", h, fail)
	}
	return b
}

// due asks whether an answer is due, and for the answer: that of the packet's family, or none.
func due(t *testing.T, what string, b []byte, want bool) {
	t.Helper()
	if got := refuse.Due(b); got != want {
		t.Errorf("Due of %s: %t", what, got)
	}
	got, is := refuse.Answer(b)
	if is != want {
		t.Errorf("Answer of %s: %v, %t", what, got, is)
	}
	if !want {
		if got != nil {
			t.Errorf("Answer of %s: %v, though none is due", what, got)
		}
		return
	}
	message, fail := icmpfour.Unreachable(b)
	if b[0]>>4 == 6 {
		message, fail = icmpsix.Unreachable(b)
	}
	if !bytes.Equal(got, message) || fail != api.OK {
		t.Errorf("Answer of %s: %v, not %v, %v", what, got, message, fail)
	}
}

// P24.1, P24.2: addresses of whom an answer may go to, and of whom it may not.
func TestAddresses(t *testing.T) {
	for _, c := range []struct {
		src, dst string
		want     bool
	}{
		{"10.0.0.1", "10.0.0.2", true},
		{"10.0.0.1", "10.0.0.1", true},
		{"0.0.0.1", "10.0.0.2", true},
		{"0.0.0.0", "10.0.0.2", false},
		{"10.0.0.1", "0.0.0.0", true},
		{"223.255.255.255", "10.0.0.2", true},
		{"224.0.0.0", "10.0.0.2", false},
		{"239.255.255.255", "10.0.0.2", false},
		{"240.0.0.0", "10.0.0.2", true},
		{"255.255.255.255", "10.0.0.2", true},
		{"10.0.0.1", "223.255.255.255", true},
		{"10.0.0.1", "224.0.0.0", false},
		{"10.0.0.1", "239.255.255.255", false},
		{"10.0.0.1", "240.0.0.0", true},
		{"10.0.0.1", "255.255.255.255", true},
		{"0.0.0.0", "224.0.0.1", false},
		{"2001:db8::1", "2001:db8::2", true},
		{"::1", "::1", true},
		{"::", "2001:db8::2", false},
		{"2001:db8::1", "::", true},
		{"feff::1", "2001:db8::2", true},
		{"ff00::", "2001:db8::2", false},
		{"ffff::1", "2001:db8::2", false},
		{"2001:db8::1", "feff::1", true},
		{"2001:db8::1", "ff00::", false},
		{"2001:db8::1", "ff02::1", false},
		{"::", "ff02::1", false},
	} {
		due(t, c.src+" to "+c.dst, put(t, api.Head{Proto: 17}, c.src, c.dst, 1, 2, 3), c.want)
	}
}

// P24.1, P24.2: errors, parts, and what is no whole packet.
func TestDue(t *testing.T) {
	const a, b, c, d = "10.0.0.1", "10.0.0.2", "fd00::1", "fd00::2"
	sum := put(t, api.Head{}, a, b)
	sum[1] ^= 1
	longest := append(put(t, api.Head{}, c, d), make([]byte, 65535)...)
	longest[4], longest[5] = 255, 255
	for _, e := range []struct {
		what string
		b    []byte
		want bool
	}{
		{"no bytes", nil, false},
		{"one byte", []byte{0x45}, false},
		{"another family", []byte{0x50}, false},
		{"noughts", make([]byte, 60), false},
		{"a bad sum", sum, false},
		{"a head alone", put(t, api.Head{}, a, b), true},
		{"the longest", put(t, api.Head{}, a, b, make([]byte, 65515)...), true},
		{"a byte less", put(t, api.Head{}, a, b, 1)[:20], false},
		{"a byte more", append(put(t, api.Head{}, a, b, 1), 0), false},
		{"an error", put(t, api.Head{Proto: 1}, a, b, 3, 1), false},
		{"another error", put(t, api.Head{Proto: 1}, a, b, 12), false},
		{"a ping", put(t, api.Head{Proto: 1}, a, b, 8, 0, 0, 0), true},
		{"a message without bytes", put(t, api.Head{Proto: 1}, a, b), true},
		{"no message", put(t, api.Head{Proto: 6}, a, b, 3, 1), true},
		{"a first part", put(t, api.Head{Proto: 17, Flags: 1}, a, b, 3, 1), true},
		{"a second part", put(t, api.Head{Proto: 17, Frag: 1}, a, b, 3, 1), false},
		{"a second part of an error", put(t, api.Head{Proto: 1, Frag: 1}, a, b, 3, 1), false},
		{"a head alone, family 6", put(t, api.Head{}, c, d), true},
		{"the longest packet, family 6", put(t, api.Head{}, c, d, make([]byte, 65495)...), true},
		{"longer than a packet may be", longest, false},
		{"a byte less, family 6", put(t, api.Head{}, c, d, 1)[:40], false},
		{"a byte more, family 6", append(put(t, api.Head{}, c, d, 1), 0), false},
		{"an error, family 6", put(t, api.Head{Proto: 58}, c, d, 1, 0), false},
		{"another error, family 6", put(t, api.Head{Proto: 58}, c, d, 127), false},
		{"a ping, family 6", put(t, api.Head{Proto: 58}, c, d, 128), true},
		{"a message without bytes, family 6", put(t, api.Head{Proto: 58}, c, d), true},
		{"a first part, family 6", put(t, api.Head{Proto: 44}, c, d, 17, 0, 0, 7, 0, 0, 0, 0), true},
		{"a second part, family 6", put(t, api.Head{Proto: 44}, c, d, 17, 0, 0, 8, 0, 0, 0, 0), false},
		{"what is too short for a part, family 6", put(t, api.Head{Proto: 44}, c, d, 17, 0, 0, 8, 0, 0, 0), true},
	} {
		due(t, e.what, e.b, e.want)
	}
}

// P24.3: an answer goes to whom the packet came from, and to it none is due.
func TestEnds(t *testing.T) {
	for _, ends := range [][2]string{{"10.0.0.1", "192.168.0.9"}, {"10.0.0.1", "0.0.0.0"}, {"fd00::1", "2001:db8::9"}, {"fd00::1", "::"}} {
		for _, size := range []int{0, 1, 600, 2000, 65495} {
			b := put(t, api.Head{Proto: 17, Ttl: 1}, ends[0], ends[1], make([]byte, size)...)
			m, is := refuse.Answer(b)
			h, fail := packet.Parse(m)
			if !is || fail != api.OK || h.Dst != at(t, ends[0]) || h.Src != at(t, ends[1]) {
				t.Errorf("Answer of %v, %d bytes: %v, %v", ends, size, h, fail)
			}
			due(t, "an answer", m, false)
		}
	}
}

// P1, P24.3: whatever the bytes are, both calls answer, and agree.
func TestWild(t *testing.T) {
	source := rand.New(rand.NewSource(24))
	answers := 0
	for range 20000 {
		b := put(t, api.Head{Proto: source.Intn(256)}, "10.0.0.1", "10.0.0.2", make([]byte, source.Intn(30))...)
		if source.Intn(2) == 0 {
			b = put(t, api.Head{Proto: source.Intn(256)}, "fd00::1", "fd00::2", make([]byte, source.Intn(30))...)
		}
		for range source.Intn(3) {
			b[source.Intn(len(b))] ^= 1 << source.Intn(8)
		}
		m, is := refuse.Answer(b)
		if is != refuse.Due(b) || (len(m) > 0) != is || refuse.Due(m) {
			t.Errorf("Answer(%v): %v, %t", b, m, is)
		}
		if is {
			answers++
		}
	}
	if answers == 0 || answers == 20000 {
		t.Errorf("%d answers", answers)
	}
}

// R2: what is answered is new, and what was handed in is as it was.
func TestAnew(t *testing.T) {
	for _, b := range [][]byte{put(t, api.Head{}, "10.0.0.1", "10.0.0.2", 1, 2), put(t, api.Head{}, "fd00::1", "fd00::2", 1, 2)} {
		kept := bytes.Clone(b)
		m, _ := refuse.Answer(b)
		for i := range m {
			m[i] ^= 255
		}
		if !bytes.Equal(b, kept) {
			t.Errorf("changed: %v", b)
		}
	}
}

// The chapter's example.
func TestExample(t *testing.T) {
	b := put(t, api.Head{Proto: 17}, "10.0.0.1", "224.0.0.1")
	if m, is := refuse.Answer(b); m != nil || is {
		t.Errorf("Answer: %v, %t", m, is)
	}
}
