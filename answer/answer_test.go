package answer_test

import (
	"bytes"
	"encoding/binary"
	"math/rand"
	"testing"

	"crawlway/answer"
	"crawlway/api"
)

// laid is a message as the standard library lays it out, field behind field.
func laid(t *testing.T, m api.Response) []byte {
	var b bytes.Buffer
	if err := binary.Write(&b, binary.LittleEndian, struct {
		Kind byte
		None [3]byte
		M    api.Response
	}{Kind: 2, M: m}); err != nil {
		t.Fatal(err)
	}
	return b.Bytes()
}

// someBytes are many messages' bytes: of noughts, of ones alone, and of whatever comes.
func someBytes() [][]byte {
	source := rand.New(rand.NewSource(14))
	var list [][]byte
	for i := range 200 {
		b := make([]byte, answer.Size)
		switch i {
		case 0:
		case 1:
			for k := range b {
				b[k] = 255
			}
		default:
			source.Read(b)
		}
		copy(b, []byte{2, 0, 0, 0})
		list = append(list, b)
	}
	return list
}

// P14.1: each field stands at its place, whole.
func TestPlaces(t *testing.T) {
	fill := func(b []byte) {
		for i := range b {
			b[i] = byte(200 + i)
		}
	}
	for _, c := range []struct {
		name        string
		place, size int
		set         func(m *api.Response)
	}{
		{"Sender", 4, 4, func(m *api.Response) { m.Sender = 200 | 201<<8 | 202<<16 | 203<<24 }},
		{"Receiver", 8, 4, func(m *api.Response) { m.Receiver = 200 | 201<<8 | 202<<16 | 203<<24 }},
		{"Ephemeral", 12, 32, func(m *api.Response) { fill(m.Ephemeral[:]) }},
		{"Empty", 44, 16, func(m *api.Response) { fill(m.Empty[:]) }},
		{"Mac1", 60, 16, func(m *api.Response) { fill(m.Mac1[:]) }},
		{"Mac2", 76, 16, func(m *api.Response) { fill(m.Mac2[:]) }},
	} {
		var m api.Response
		c.set(&m)
		want := make([]byte, 92)
		want[0] = 2
		fill(want[c.place : c.place+c.size])
		if got := answer.Bytes(m); !bytes.Equal(got, want) {
			t.Errorf("Bytes, %s: %v", c.name, got)
		}
		if got, fail := answer.Parse(want); got != m || fail != api.OK {
			t.Errorf("Parse, %s: %v, %v", c.name, got, fail)
		}
	}
}

// P14.1, P14.3: there and back, all fields at once.
func TestBack(t *testing.T) {
	for _, b := range someBytes() {
		m, fail := answer.Parse(b)
		if fail != api.OK {
			t.Fatalf("Parse(%v): %v", b, fail)
		}
		if got := answer.Bytes(m); !bytes.Equal(got, b) || !bytes.Equal(got, laid(t, m)) {
			t.Errorf("Bytes(%v): %v", m, got)
		}
		if again, fail := answer.Parse(answer.Bytes(m)); again != m || fail != api.OK {
			t.Errorf("Parse: %v, %v, not %v", again, fail, m)
		}
	}
}

// wrong asks for an error, and for nothing beside it.
func wrong(t *testing.T, b []byte, want api.Errno) {
	t.Helper()
	if m, fail := answer.Parse(b); fail != want || m != (api.Response{}) {
		t.Errorf("Parse(%v): %v, %v", b, m, fail)
	}
}

// P14.2: too few bytes and too many, whatever they are.
func TestSize(t *testing.T) {
	long := append(someBytes()[5], make([]byte, 200)...)
	wrong(t, nil, api.ErrShort)
	for n := range len(long) {
		want := api.ErrLong
		if n < 92 {
			want = api.ErrShort
		}
		if n == 92 {
			continue
		}
		wrong(t, long[:n], want)
		wrong(t, make([]byte, n), want)
		wrong(t, bytes.Repeat([]byte{255}, n), want)
	}
}

// P14.2: the first byte, and the three behind it.
func TestHeading(t *testing.T) {
	for kind := range 256 {
		b := bytes.Repeat([]byte{7}, 92)
		copy(b, []byte{byte(kind), 0, 0, 0})
		if kind != 2 {
			wrong(t, b, api.ErrKind)
		}
		for place := 1; place <= 3; place++ {
			for _, c := range []byte{1, 128, 255} {
				b := bytes.Clone(b)
				b[place] = c
				if kind == 2 {
					wrong(t, b, api.ErrZero)
				} else {
					wrong(t, b, api.ErrKind)
				}
			}
		}
	}
}

// R2: bytes handed in are left as they are, and bytes answered are new.
func TestAnew(t *testing.T) {
	b := bytes.Clone(someBytes()[3])
	m, _ := answer.Parse(b)
	if !bytes.Equal(b, someBytes()[3]) {
		t.Error("Parse writes into what it is given")
	}
	kept := m
	clear(b)
	if m != kept {
		t.Error("what is parsed shares memory with the bytes")
	}
	clear(answer.Bytes(m))
	if got := answer.Bytes(m); m != kept || !bytes.Equal(got, someBytes()[3]) {
		t.Error("bytes share memory with a message")
	}
}

// The chapter's example.
func TestExample(t *testing.T) {
	wrong(t, make([]byte, 92), api.ErrKind)
	if answer.Size != 92 {
		t.Error("Size:", answer.Size)
	}
}
