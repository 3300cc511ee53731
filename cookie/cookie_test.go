package cookie_test

import (
	"bytes"
	"encoding/binary"
	"math/rand"
	"testing"

	"crawlway/api"
	"crawlway/cookie"
)

// laid is a message as the standard library lays it out, field behind field.
func laid(t *testing.T, m api.Cookie) []byte {
	var b bytes.Buffer
	if err := binary.Write(&b, binary.LittleEndian, struct {
		Kind byte
		None [3]byte
		M    api.Cookie
	}{Kind: 3, M: m}); err != nil {
		t.Fatal(err)
	}
	return b.Bytes()
}

// someBytes are many messages' bytes: of noughts, of ones alone, and of whatever comes.
func someBytes() [][]byte {
	source := rand.New(rand.NewSource(15))
	var list [][]byte
	for i := range 200 {
		b := make([]byte, cookie.Size)
		switch i {
		case 0:
		case 1:
			for k := range b {
				b[k] = 255
			}
		default:
			source.Read(b)
		}
		copy(b, []byte{3, 0, 0, 0})
		list = append(list, b)
	}
	return list
}

// P15.1: each field stands at its place, whole.
func TestPlaces(t *testing.T) {
	fill := func(b []byte) {
		for i := range b {
			b[i] = byte(200 + i)
		}
	}
	for _, c := range []struct {
		name        string
		place, size int
		set         func(m *api.Cookie)
	}{
		{"Receiver", 4, 4, func(m *api.Cookie) { m.Receiver = 200 | 201<<8 | 202<<16 | 203<<24 }},
		{"Nonce", 8, 24, func(m *api.Cookie) { fill(m.Nonce[:]) }},
		{"Sealed", 32, 32, func(m *api.Cookie) { fill(m.Sealed[:]) }},
	} {
		var m api.Cookie
		c.set(&m)
		want := make([]byte, 64)
		want[0] = 3
		fill(want[c.place : c.place+c.size])
		if got := cookie.Bytes(m); !bytes.Equal(got, want) {
			t.Errorf("Bytes, %s: %v", c.name, got)
		}
		if got, fail := cookie.Parse(want); got != m || fail != api.OK {
			t.Errorf("Parse, %s: %v, %v", c.name, got, fail)
		}
	}
}

// P15.1, P15.3: there and back, all fields at once.
func TestBack(t *testing.T) {
	for _, b := range someBytes() {
		m, fail := cookie.Parse(b)
		if fail != api.OK {
			t.Fatalf("Parse(%v): %v", b, fail)
		}
		if got := cookie.Bytes(m); !bytes.Equal(got, b) || !bytes.Equal(got, laid(t, m)) {
			t.Errorf("Bytes(%v): %v", m, got)
		}
		if again, fail := cookie.Parse(cookie.Bytes(m)); again != m || fail != api.OK {
			t.Errorf("Parse: %v, %v, not %v", again, fail, m)
		}
	}
}

// wrong asks for an error, and for nothing beside it.
func wrong(t *testing.T, b []byte, want api.Errno) {
	t.Helper()
	if m, fail := cookie.Parse(b); fail != want || m != (api.Cookie{}) {
		t.Errorf("Parse(%v): %v, %v", b, m, fail)
	}
}

// P15.2: too few bytes and too many, whatever they are.
func TestSize(t *testing.T) {
	long := append(someBytes()[5], make([]byte, 200)...)
	wrong(t, nil, api.ErrShort)
	for n := range len(long) {
		want := api.ErrLong
		if n < 64 {
			want = api.ErrShort
		}
		if n == 64 {
			continue
		}
		wrong(t, long[:n], want)
		wrong(t, make([]byte, n), want)
		wrong(t, bytes.Repeat([]byte{255}, n), want)
	}
}

// P15.2: the first byte, and the three behind it.
func TestHeading(t *testing.T) {
	for kind := range 256 {
		b := bytes.Repeat([]byte{7}, 64)
		copy(b, []byte{byte(kind), 0, 0, 0})
		if kind != 3 {
			wrong(t, b, api.ErrKind)
		}
		for place := 1; place <= 3; place++ {
			for _, c := range []byte{1, 128, 255} {
				b := bytes.Clone(b)
				b[place] = c
				if kind == 3 {
					wrong(t, b, api.ErrZero)
				} else {
					wrong(t, b, api.ErrKind)
				}
			}
		}
	}
}

// R2: bytes handed in are left as they are, and bytes answered are new.
func TestAnew(t *testing.T) {
	b := bytes.Clone(someBytes()[3])
	m, _ := cookie.Parse(b)
	if !bytes.Equal(b, someBytes()[3]) {
		t.Error("Parse writes into what it is given")
	}
	kept := m
	clear(b)
	if m != kept {
		t.Error("what is parsed shares memory with the bytes")
	}
	clear(cookie.Bytes(m))
	if got := cookie.Bytes(m); m != kept || !bytes.Equal(got, someBytes()[3]) {
		t.Error("bytes share memory with a message")
	}
}

// The chapter's example.
func TestExample(t *testing.T) {
	for _, c := range []byte{0, 7} {
		wrong(t, append([]byte{3, 0, 1}, bytes.Repeat([]byte{c}, 61)...), api.ErrZero)
	}
	if cookie.Size != 64 {
		t.Error("Size:", cookie.Size)
	}
}
