package ipfour_test

import (
	"bytes"
	"math"
	"math/rand"
	"testing"

	"crawlway/addr"
	"crawlway/api"
	"crawlway/ipfour"
)

var (
	here  = addr.Four([4]byte{10, 0, 0, 1})
	there = addr.Four([4]byte{192, 168, 255, 254})
)

// mend makes the check of the first size bytes, word by word.
func mend(b []byte, size int) []byte {
	b[10], b[11] = 0, 0
	sum := 0
	for i := 0; i < size; i += 2 {
		sum += int(b[i])*256 + int(b[i+1])
	}
	for sum > 65535 {
		sum = sum%65536 + sum/65536
	}
	b[10], b[11] = byte((65535-sum)/256), byte((65535-sum)%256)
	return b
}

// raw is a packet whose head has size bytes, and says that there are total in all.
func raw(size, total, more int) []byte {
	b := make([]byte, total+more)
	rand.New(rand.NewSource(int64(size))).Read(b)
	b[0] = byte(4*16 + size/4)
	b[2], b[3] = byte(total/256), byte(total%256)
	return mend(b, size)
}

// wrong asks for an error, and for nothing beside it.
func wrong(t *testing.T, b []byte, want api.Errno) {
	t.Helper()
	if h, fail := ipfour.Parse(b); fail != want || h != (api.Head{}) {
		t.Errorf("Parse of %d bytes: %v, %v, not %v", len(b), h, fail, want)
	}
}

// P19.1: a head whose check is known, with every field in its place.
func TestParse(t *testing.T) {
	b := []byte{0x45, 0, 0, 0x73, 0, 0, 0x40, 0, 0x40, 0x11, 0xb8, 0x61, 0xc0, 0xa8, 0, 1, 0xc0, 0xa8, 0, 0xc7}
	b = append(b, make([]byte, 95)...)
	want := api.Head{V: 4, Size: 20, Total: 115, Flags: 2, Ttl: 64, Proto: 17, Src: addr.Four([4]byte{192, 168, 0, 1}), Dst: addr.Four([4]byte{192, 168, 0, 199})}
	if h, fail := ipfour.Parse(b); h != want || fail != api.OK {
		t.Errorf("Parse: %v, %v", h, fail)
	}
	b = mend([]byte{0x46, 0x12, 0, 24, 0x34, 0x56, 0xb2, 0x34, 0x78, 0x9a, 0, 0, 1, 2, 3, 4, 5, 6, 7, 8, 9, 10, 11, 12}, 24)
	want = api.Head{V: 4, Size: 24, Total: 24, Class: 0x12, Id: 0x3456, Flags: 5, Frag: 0x1234, Ttl: 0x78, Proto: 0x9a, Src: addr.Four([4]byte{1, 2, 3, 4}), Dst: addr.Four([4]byte{5, 6, 7, 8})}
	if h, fail := ipfour.Parse(b); h != want || fail != api.OK {
		t.Errorf("Parse: %v, %v", h, fail)
	}
	b = mend(append([]byte{0x45, 255, 0, 20, 255, 255, 255, 255, 255, 255}, bytes.Repeat([]byte{255}, 10)...), 20)
	all := addr.Four([4]byte{255, 255, 255, 255})
	want = api.Head{V: 4, Size: 20, Total: 20, Class: 255, Id: 65535, Flags: 7, Frag: 8191, Ttl: 255, Proto: 255, Src: all, Dst: all}
	if h, fail := ipfour.Parse(b); h != want || fail != api.OK {
		t.Errorf("Parse: %v, %v", h, fail)
	}
}

// P19.1: heads of every size; what stands behind Total counts for nothing, and the body for no more.
func TestSizes(t *testing.T) {
	for size := 20; size <= 60; size += 4 {
		for _, body := range []int{0, 1, 2, 7, 1000, 65535 - size} {
			total := size + body
			b := raw(size, total, 0)
			want, fail := ipfour.Parse(b)
			if fail != api.OK || want.V != 4 || want.Size != size || want.Total != total || want.Class != int(b[1]) || want.Proto != int(b[9]) {
				t.Errorf("Parse of %d bytes, %d of them the head: %v, %v", total, size, want, fail)
			}
			for _, more := range []int{1, 16, 70000} {
				long := append(bytes.Clone(b), bytes.Repeat([]byte{255}, more)...)
				if h, fail := ipfour.Parse(long); h != want || fail != api.OK {
					t.Errorf("Parse of %d bytes and %d more: %v, %v", total, more, h, fail)
				}
			}
			for i := size; i < total; i++ {
				b[i] ^= 255
			}
			if h, fail := ipfour.Parse(b); h != want || fail != api.OK {
				t.Errorf("Parse of %d bytes, the body another one: %v, %v", total, h, fail)
			}
		}
	}
}

// P19.1: bytes that are cut anywhere.
func TestShort(t *testing.T) {
	wrong(t, nil, api.ErrShort)
	wrong(t, []byte{}, api.ErrShort)
	for size := 20; size <= 60; size += 4 {
		b := raw(size, size+9, 0)
		for n := range b {
			wrong(t, b[:n], api.ErrShort)
		}
	}
}

// P19.1: the first four bits, and those behind them.
func TestFirst(t *testing.T) {
	for first := range 256 {
		b := raw(20, 80, 0)
		b[0] = byte(first)
		size := first % 16 * 4
		switch {
		case first/16 != 4:
			wrong(t, mend(b, 20), api.ErrKind)
		case size < 20:
			wrong(t, mend(b, 20), api.ErrForm)
			wrong(t, mend(b, size), api.ErrForm)
		default:
			if h, fail := ipfour.Parse(mend(b, size)); h.Size != size || fail != api.OK {
				t.Errorf("Parse, first %d: %v, %v", first, h, fail)
			}
		}
	}
}

// P19.1: each error goes ahead of all that are named behind it.
func TestOrder(t *testing.T) {
	packet := func(first byte, total, have int) []byte {
		b := make([]byte, have)
		copy(b, []byte{first, 0, byte(total / 256), byte(total % 256)})
		return b
	}
	// None of these has a good sum.
	for _, c := range []struct {
		b    []byte
		want api.Errno
	}{
		{packet(0x65, 0, 19), api.ErrShort},
		{packet(0x44, 0, 19), api.ErrShort},
		{packet(0x65, 20, 20), api.ErrKind},
		{packet(0x54, 0, 20), api.ErrKind},
		{packet(0x0f, 99, 20), api.ErrKind},
		{packet(0x44, 0, 20), api.ErrForm},
		{packet(0x40, 99, 20), api.ErrForm},
		{packet(0x46, 0, 23), api.ErrShort},
		{packet(0x4f, 60, 59), api.ErrShort},
		{packet(0x46, 23, 24), api.ErrForm},
		{packet(0x45, 19, 20), api.ErrForm},
		{packet(0x45, 0, 99), api.ErrForm},
		{packet(0x4f, 59, 60), api.ErrForm},
		{packet(0x45, 21, 20), api.ErrShort},
		{packet(0x46, 65535, 65534), api.ErrShort},
		{packet(0x45, 20, 20), api.ErrSum},
		{packet(0x45, 20, 21), api.ErrSum},
		{packet(0x4f, 60, 60), api.ErrSum},
		{packet(0x45, 65535, 65535), api.ErrSum},
	} {
		wrong(t, c.b, c.want)
	}
}

// P19.1: the sum is that of the head alone, options with it.
func TestSum(t *testing.T) {
	b := raw(24, 30, 0)
	wrong(t, mend(b, 20), api.ErrSum)
	wrong(t, mend(b, 30), api.ErrSum)
	if _, fail := ipfour.Parse(mend(b, 24)); fail != api.OK {
		t.Errorf("Parse: %v", fail)
	}
}

// P19.2: every field in its place.
func TestPut(t *testing.T) {
	h := api.Head{Class: 0x12, Id: 0x3456, Flags: 5, Frag: 0x1234, Ttl: 0x78, Proto: 0x9a, Src: here, Dst: there}
	want := mend([]byte{0x45, 0x12, 0, 23, 0x34, 0x56, 0xb2, 0x34, 0x78, 0x9a, 0, 0, 10, 0, 0, 1, 192, 168, 255, 254, 'a', 'b', 'c'}, 20)
	if b, fail := ipfour.Put(h, []byte("abc")); !bytes.Equal(b, want) || fail != api.OK {
		t.Errorf("Put: %v, %v", b, fail)
	}
	h.V, h.Size, h.Total = 6, 60, 9
	if b, fail := ipfour.Put(h, []byte("abc")); !bytes.Equal(b, want) || fail != api.OK {
		t.Errorf("Put, of another V, Size and Total: %v, %v", b, fail)
	}
	h.V, h.Size, h.Total = math.MinInt, -1, math.MaxInt
	if b, fail := ipfour.Put(h, []byte("abc")); !bytes.Equal(b, want) || fail != api.OK {
		t.Errorf("Put, of wild V, Size and Total: %v, %v", b, fail)
	}
	known := api.Head{Flags: 2, Ttl: 64, Proto: 17, Src: addr.Four([4]byte{192, 168, 0, 1}), Dst: addr.Four([4]byte{192, 168, 0, 199})}
	if b, fail := ipfour.Put(known, make([]byte, 95)); fail != api.OK || len(b) != 115 || b[10] != 0xb8 || b[11] != 0x61 {
		t.Errorf("Put, whose check is known: %v, %v", b, fail)
	}
}

// fields are pointers to the numbers of a head, with the most that each may be.
func fields(h *api.Head) map[*int]int {
	return map[*int]int{&h.Class: 255, &h.Ttl: 255, &h.Proto: 255, &h.Id: 65535, &h.Flags: 7, &h.Frag: 8191}
}

// P19.2: numbers at both ends of what they may be, and past them, whatever the body.
func TestRange(t *testing.T) {
	h := api.Head{Src: here, Dst: there}
	for field, most := range fields(&h) {
		for _, n := range []int{0, 1, most - 1, most} {
			*field = n
			b, fail := ipfour.Put(h, nil)
			got, _ := ipfour.Parse(b)
			want := h
			want.V, want.Size, want.Total = 4, 20, 20
			if fail != api.OK || got != want {
				t.Errorf("Put(%v): %v, %v", h, b, fail)
			}
		}
		for _, n := range []int{-1, -2, -256, -65536, -8192, most + 1, 2 * (most + 1), 1 << 20, 1 << 32, -1 << 32, math.MaxInt, math.MinInt} {
			*field = n
			for _, size := range []int{0, 65515, 65516} {
				if b, fail := ipfour.Put(h, make([]byte, size)); b != nil || fail != api.ErrArg {
					t.Errorf("Put(%v): %v, %v", h, b, fail)
				}
			}
		}
		*field = 0
	}
}

// P19.2: addresses that are none of family 4.
func TestAddresses(t *testing.T) {
	tail := here
	tail.B[15] = 1
	for _, a := range []api.Addr{{}, {V: 6}, {V: 5}, {V: -4}, {V: 4, B: [16]byte{4: 1}}, tail, addr.Six([16]byte{10, 0, 0, 1})} {
		for _, h := range []api.Head{{Src: a, Dst: there}, {Src: here, Dst: a}, {Src: a, Dst: a}} {
			for _, size := range []int{0, 65516} {
				if b, fail := ipfour.Put(h, make([]byte, size)); b != nil || fail != api.ErrArg {
					t.Errorf("Put(%v): %v, %v", h, b, fail)
				}
			}
		}
	}
}

// P19.2: bodies up to the most.
func TestBody(t *testing.T) {
	h := api.Head{Src: here, Dst: there}
	for _, size := range []int{0, 1, 2, 255, 256, 65514, 65515} {
		body := bytes.Repeat([]byte{7}, size)
		b, fail := ipfour.Put(h, body)
		if fail != api.OK || len(b) != 20+size || !bytes.Equal(b[20:], body) {
			t.Errorf("Put of %d bytes: %d, %v", size, len(b), fail)
		}
		if got, fail := ipfour.Parse(b); got.Total != 20+size || fail != api.OK {
			t.Errorf("Parse of what was put of %d bytes: %v, %v", size, got, fail)
		}
	}
	for _, size := range []int{65516, 65517, 65535, 65536, 1 << 17} {
		if b, fail := ipfour.Put(h, make([]byte, size)); b != nil || fail != api.ErrLong {
			t.Errorf("Put of %d bytes: %d, %v", size, len(b), fail)
		}
	}
}

// someHeads are heads that can be put, at random.
func someHeads() []api.Head {
	source := rand.New(rand.NewSource(19))
	var list []api.Head
	for range 500 {
		h := api.Head{Class: source.Intn(256), Id: source.Intn(65536), Flags: source.Intn(8), Frag: source.Intn(8192), Ttl: source.Intn(256), Proto: source.Intn(256)}
		var src, dst [4]byte
		source.Read(src[:])
		source.Read(dst[:])
		h.Src, h.Dst = addr.Four(src), addr.Four(dst)
		list = append(list, h)
	}
	return list
}

// P19.3: what is put is parsed as it was.
func TestBothWays(t *testing.T) {
	for i, h := range someHeads() {
		b, fail := ipfour.Put(h, make([]byte, i))
		h.V, h.Size, h.Total = 4, 20, 20+i
		if got, fails := ipfour.Parse(b); fail != api.OK || fails != api.OK || got != h {
			t.Errorf("Parse of what was put: %v, not %v; %v, %v", got, h, fail, fails)
		}
	}
}

// P19.3: no bit of the head behind the first byte can be turned unseen.
func TestTurned(t *testing.T) {
	turn := func(b []byte, size int) {
		for bit := 8; bit < 8*size; bit++ {
			b[bit/8] ^= 1 << (bit % 8)
			if h, fail := ipfour.Parse(b); fail == api.OK || h != (api.Head{}) {
				t.Errorf("Parse with bit %d turned: %v, %v", bit, h, fail)
			}
			b[bit/8] ^= 1 << (bit % 8)
		}
	}
	for i, h := range someHeads()[:50] {
		b, _ := ipfour.Put(h, make([]byte, i))
		turn(b, 20)
		turn(append(b, make([]byte, 66000)...), 20)
	}
	for size := 20; size <= 60; size += 4 {
		turn(raw(size, size+5, 0), size)
	}
}

// P1: whatever the bytes are, Parse answers, and a head beside OK alone.
func TestWild(t *testing.T) {
	source := rand.New(rand.NewSource(191))
	for range 20000 {
		b := make([]byte, source.Intn(90))
		source.Read(b)
		if len(b) > 3 {
			b[0], b[2] = 0x40+b[0]%16, 0
		}
		h, fail := ipfour.Parse(b)
		if (fail == api.OK) != (h.V == 4) || (fail != api.OK && h != (api.Head{})) {
			t.Errorf("Parse(%v): %v, %v", b, h, fail)
		}
	}
}

// R1, R2: no body is as good as an empty one; what is put is new, and what was handed in is as it was.
func TestAnew(t *testing.T) {
	h := api.Head{Ttl: 9, Src: here, Dst: there}
	none, _ := ipfour.Put(h, nil)
	empty, _ := ipfour.Put(h, []byte{})
	if !bytes.Equal(none, empty) {
		t.Errorf("Put: %v, %v", none, empty)
	}
	body := append(make([]byte, 0, 99), "abc"...)
	b, _ := ipfour.Put(h, body)
	for i := range b {
		b[i] = 255
	}
	if string(body) != "abc" || !bytes.Equal(body[:99][3:], make([]byte, 96)) {
		t.Errorf("the body: %v", body[:99])
	}
	b, _ = ipfour.Put(h, body)
	kept := bytes.Clone(b)
	ipfour.Parse(b)
	if !bytes.Equal(b, kept) {
		t.Errorf("Parse changed what it was handed: %v", b)
	}
}

// The chapter's example.
func TestExample(t *testing.T) {
	h := api.Head{Src: here, Dst: addr.Four([4]byte{10, 0, 0, 2})}
	if b, fail := ipfour.Put(h, []byte{1}); len(b) != 21 || b[0] != 69 || fail != api.OK || ipfour.Size != 20 {
		t.Errorf("Put: %v, %v", b, fail)
	}
}
