package padding_test

import (
	"bytes"
	"math"
	"math/rand"
	"slices"
	"testing"

	"crawlway/addr"
	"crawlway/api"
	"crawlway/ipfour"
	"crawlway/ipsix"
	"crawlway/packet"
	"crawlway/padding"
)

// four and six are packets with so many bytes behind the head.
func four(t *testing.T, n int) []byte {
	t.Helper()
	h := api.Head{Proto: 17, Src: addr.Four([4]byte{10, 0, 0, 1}), Dst: addr.Four([4]byte{10, 0, 0, 2})}
	b, fail := ipfour.Put(h, bytes.Repeat([]byte{9}, n))
	if fail != api.OK {
		t.Fatalf("Put: %v", fail)
	}
	return b
}

func six(t *testing.T, n int) []byte {
	t.Helper()
	h := api.Head{Proto: 17, Src: addr.Six([16]byte{15: 1}), Dst: addr.Six([16]byte{15: 2})}
	b, fail := ipsix.Put(h, bytes.Repeat([]byte{9}, n))
	if fail != api.OK {
		t.Fatalf("Put: %v", fail)
	}
	return b
}

// P46.1: the edges.
func TestSize(t *testing.T) {
	for n, want := range map[int]int{
		0: 0, 1: 16, 2: 16, 15: 16, 16: 16, 17: 32, 31: 32, 32: 32, 33: 48, 255: 256, 256: 256, 257: 272,
		65519: 65520, 65520: 65520, 65521: 65535, 65530: 65535, 65534: 65535, 65535: 65535,
		65536: -1, 65537: -1, 1 << 20: -1, 1 << 32: -1, 1<<32 + 16: -1, math.MaxInt: -1,
		-1: -1, -15: -1, -16: -1, -17: -1, -65535: -1, math.MinInt: -1,
	} {
		if got := padding.Size(n); got != want {
			t.Errorf("Size(%d): %d, not %d", n, got, want)
		}
	}
}

// P46.1: of each number the least multiple, counted up.
func TestSizeAll(t *testing.T) {
	multiple := 0
	for n := range api.MaxPacket + 1 {
		if n > multiple {
			multiple += 16
		}
		if got := padding.Size(n); got != min(multiple, 65535) {
			t.Fatalf("Size(%d): %d, not %d", n, got, multiple)
		}
	}
}

// P46.2: what was there, and bytes 0 behind it.
func TestPad(t *testing.T) {
	for _, n := range []int{0, 1, 2, 15, 16, 17, 32, 33, 1000, 65519, 65520, 65521, 65534, 65535} {
		b := bytes.Repeat([]byte{255}, n)
		got, fail := padding.Pad(b)
		if fail != api.OK || len(got) != padding.Size(n) || len(got) < n {
			t.Fatalf("Pad of %d: %d, %v", n, len(got), fail)
		}
		if !bytes.Equal(got[:n], b) || bytes.Count(got[n:], []byte{0}) != len(got)-n {
			t.Errorf("Pad of %d: %v", n, got)
		}
	}
	if got, fail := padding.Pad(nil); len(got) != 0 || fail != api.OK {
		t.Errorf("Pad of nil: %v, %v", got, fail)
	}
}

// P46.2: too many bytes.
func TestPadLong(t *testing.T) {
	for _, n := range []int{65536, 65537, 65552, 1 << 20} {
		if got, fail := padding.Pad(make([]byte, n)); got != nil || fail != api.ErrLong {
			t.Errorf("Pad of %d: %d, %v", n, len(got), fail)
		}
	}
}

// P46.3: of no bytes none, and else what layer 21 tells.
func TestStrip(t *testing.T) {
	for _, b := range [][]byte{nil, {}} {
		if got, fail := padding.Strip(b); got != nil || fail != api.OK {
			t.Errorf("Strip of no bytes: %v, %v", got, fail)
		}
	}
	sum := four(t, 5)
	sum[8]++
	small := four(t, 5)
	small[3] = 19
	for what, x := range map[string]struct {
		b    []byte
		want api.Errno
	}{
		"a packet of family 4":   {four(t, 5), api.OK},
		"with bytes behind it":   {append(four(t, 5), 1, 2, 3), api.OK},
		"a packet of family 6":   {six(t, 5), api.OK},
		"with one byte behind":   {append(six(t, 5), 0), api.OK},
		"one byte 0":             {make([]byte, 1), api.ErrKind},
		"bytes 0":                {make([]byte, 64), api.ErrKind},
		"another family":         {bytes.Repeat([]byte{0x55}, 64), api.ErrKind},
		"one byte of family 4":   {[]byte{0x45}, api.ErrShort},
		"one byte of family 6":   {[]byte{0x60}, api.ErrShort},
		"a byte less":            {four(t, 5)[:24], api.ErrShort},
		"a byte less, family 6":  {six(t, 5)[:44], api.ErrShort},
		"a total below the size": {small, api.ErrForm},
		"a bad sum":              {sum, api.ErrSum},
	} {
		want, fail := packet.Strip(x.b)
		if fail != x.want {
			t.Fatalf("Strip of layer 21, %s: %v", what, fail)
		}
		if got, fail := padding.Strip(x.b); !bytes.Equal(got, want) || fail != x.want {
			t.Errorf("Strip, %s: %v, %v", what, got, fail)
		}
	}
}

// P46.4: a whole packet, padded, is stripped to itself, be it of any size.
func TestFollows(t *testing.T) {
	source := rand.New(rand.NewSource(46))
	sizes := []int{0, 1, 11, 12, 13, 65494, 65495}
	for range 200 {
		sizes = append(sizes, source.Intn(2000))
	}
	for _, n := range sizes {
		for _, b := range [][]byte{four(t, n), six(t, n), four(t, n+20)} {
			padded, fail := padding.Pad(b)
			if !packet.Whole(b) || fail != api.OK {
				t.Fatalf("Pad of %d: %v", len(b), fail)
			}
			if got, fail := padding.Strip(padded); !bytes.Equal(got, b) || fail != api.OK {
				t.Errorf("Strip of %d: %d, %v", len(padded), len(got), fail)
			}
		}
	}
}

// P1: whatever the bytes are, all calls answer.
func TestWild(t *testing.T) {
	source := rand.New(rand.NewSource(1))
	for range 20000 {
		b := make([]byte, source.Intn(80))
		source.Read(b)
		if len(b) > 0 && source.Intn(2) == 0 {
			b[0] = []byte{0x45, 0x60}[source.Intn(2)]
		}
		padding.Strip(b)
		padding.Size(int(source.Uint64()))
		if got, fail := padding.Pad(b); fail != api.OK || !bytes.HasPrefix(got, b) {
			t.Fatalf("Pad(%v): %v, %v", b, got, fail)
		}
	}
}

// R2: what is answered is new, what is handed in is as it was, and so is what stands behind it.
func TestAnew(t *testing.T) {
	for _, n := range []int{1, 16, 25, 32} {
		room := bytes.Repeat([]byte{7}, 64)
		got, _ := padding.Pad(room[:n])
		if bytes.Count(got[n:], []byte{0}) != len(got)-n {
			t.Errorf("Pad of %d: %v", n, got)
		}
		clear(got)
		if !bytes.Equal(room, bytes.Repeat([]byte{7}, 64)) {
			t.Errorf("Pad of %d: wrote into what was handed in: %v", n, room)
		}
	}
	b := append(four(t, 5), 0, 0)
	kept := slices.Clone(b)
	got, _ := padding.Strip(b)
	clear(got)
	if !bytes.Equal(b, kept) {
		t.Errorf("Strip: %v, not %v", b, kept)
	}
}

// The chapter's examples.
func TestExample(t *testing.T) {
	if padding.Size(1) != 16 || padding.Size(65530) != 65535 {
		t.Errorf("Size: %d, %d", padding.Size(1), padding.Size(65530))
	}
}
