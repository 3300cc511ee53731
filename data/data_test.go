package data_test

import (
	"bytes"
	"math"
	"math/rand"
	"testing"

	"crawlway/api"
	"crawlway/data"
)

// someMessages are messages with bodies of every edge's size.
func someMessages() []api.Transport {
	source := rand.New(rand.NewSource(16))
	var list []api.Transport
	for _, size := range []int{16, 17, 31, 32, 33, 255, 256, 257, 1500, 65534, 65535, 65536, 65550, 65551} {
		body := make([]byte, size)
		source.Read(body)
		list = append(list,
			api.Transport{Receiver: source.Uint32(), Counter: source.Uint64(), Body: body},
			api.Transport{Body: make([]byte, size)},
			api.Transport{Receiver: math.MaxUint32, Counter: math.MaxUint64, Body: bytes.Repeat([]byte{255}, size)})
	}
	return list
}

// raw is a message's bytes, byte by byte.
func raw(m api.Transport) []byte {
	b := []byte{4, 0, 0, 0}
	for i := range 4 {
		b = append(b, byte(m.Receiver>>(8*i)))
	}
	for i := range 8 {
		b = append(b, byte(m.Counter>>(8*i)))
	}
	return append(b, m.Body...)
}

// P16.1: both numbers, the lowest byte first, and the body.
func TestBytes(t *testing.T) {
	m := api.Transport{Receiver: 0x04030201, Counter: 0x0c0b0a0908070605, Body: []byte("sixteen bytes are")}
	want := append([]byte{4, 0, 0, 0, 1, 2, 3, 4, 5, 6, 7, 8, 9, 10, 11, 12}, "sixteen bytes are"...)
	if got, fail := data.Bytes(m); !bytes.Equal(got, want) || fail != api.OK {
		t.Errorf("Bytes: %v, %v", got, fail)
	}
	if got, fail := data.Parse(want); !data.Same(got, m) || fail != api.OK {
		t.Errorf("Parse: %v, %v", got, fail)
	}
	for _, m := range someMessages() {
		if got, fail := data.Bytes(m); !bytes.Equal(got, raw(m)) || fail != api.OK {
			t.Errorf("Bytes of a body of %d: %d bytes, %v", len(m.Body), len(got), fail)
		}
	}
}

// P16.1: a body too short, or too long.
func TestBody(t *testing.T) {
	for size, want := range map[int]api.Errno{0: api.ErrShort, 1: api.ErrShort, 15: api.ErrShort, 16: api.OK, 65551: api.OK, 65552: api.ErrLong, 65567: api.ErrLong, 1 << 20: api.ErrLong} {
		got, fail := data.Bytes(api.Transport{Receiver: 1, Counter: 2, Body: make([]byte, size)})
		if fail != want || (fail != api.OK && len(got) != 0) {
			t.Errorf("Bytes of a body of %d: %d bytes, %v", size, len(got), fail)
		}
	}
	if got, fail := data.Bytes(api.Transport{}); got != nil || fail != api.ErrShort {
		t.Errorf("Bytes of no body: %v, %v", got, fail)
	}
}

// wrong asks for an error, and for nothing beside it.
func wrong(t *testing.T, b []byte, want api.Errno) {
	t.Helper()
	if m, fail := data.Parse(b); fail != want || m.Receiver != 0 || m.Counter != 0 || m.Body != nil {
		t.Errorf("Parse of %d bytes: %d, %d, a body of %d, %v", len(b), m.Receiver, m.Counter, len(m.Body), fail)
	}
}

// P16.2: too few bytes and too many, whatever they are.
func TestSize(t *testing.T) {
	wrong(t, nil, api.ErrShort)
	for size, want := range map[int]api.Errno{0: api.ErrShort, 1: api.ErrShort, 4: api.ErrShort, 15: api.ErrShort, 16: api.ErrShort, 17: api.ErrShort, 30: api.ErrShort, 31: api.ErrShort, 65568: api.ErrLong, 65569: api.ErrLong, 1 << 20: api.ErrLong} {
		b := make([]byte, size)
		wrong(t, b, want)
		for i := range b {
			b[i] = 255
		}
		wrong(t, b, want)
		copy(b, []byte{4, 0, 0, 0})
		wrong(t, b, want)
	}
	for _, size := range []int{32, 65567} {
		b := make([]byte, size)
		b[0] = 4
		if m, fail := data.Parse(b); len(m.Body) != size-16 || fail != api.OK {
			t.Errorf("Parse of %d bytes: a body of %d, %v", size, len(m.Body), fail)
		}
	}
}

// P16.2: the first byte, and the three behind it.
func TestHeading(t *testing.T) {
	for kind := range 256 {
		b := bytes.Repeat([]byte{7}, 40)
		copy(b, []byte{byte(kind), 0, 0, 0})
		if kind != 4 {
			wrong(t, b, api.ErrKind)
		}
		for place := 1; place <= 3; place++ {
			for _, c := range []byte{1, 128, 255} {
				b := bytes.Clone(b)
				b[place] = c
				if kind == 4 {
					wrong(t, b, api.ErrZero)
				} else {
					wrong(t, b, api.ErrKind)
				}
			}
		}
	}
}

// P16.3: there and back.
func TestBack(t *testing.T) {
	for _, m := range someMessages() {
		b, _ := data.Bytes(m)
		got, fail := data.Parse(b)
		if fail != api.OK || got.Receiver != m.Receiver || got.Counter != m.Counter || !bytes.Equal(got.Body, m.Body) {
			t.Errorf("Parse of a body of %d: a body of %d, %v", len(m.Body), len(got.Body), fail)
		}
		if again, fail := data.Bytes(got); !bytes.Equal(again, b) || fail != api.OK {
			t.Errorf("Bytes of a body of %d: %d bytes, %v", len(m.Body), len(again), fail)
		}
	}
}

// P16.3: each field counts, and no body is a body without bytes (R1).
func TestSame(t *testing.T) {
	list := []api.Transport{
		{},
		{Receiver: 1},
		{Receiver: 1 << 31},
		{Counter: 1},
		{Counter: 1 << 63},
		{Counter: 1 << 32},
		{Body: []byte{0}},
		{Body: []byte{1}},
		{Body: []byte{0, 0}},
		{Receiver: 1, Counter: 1, Body: []byte{0, 1}},
		{Receiver: 1, Counter: 1, Body: []byte{1, 0}},
	}
	for i, a := range list {
		for k, b := range list {
			b.Body = append([]byte{}, b.Body...)
			if data.Same(a, b) != (i == k) || data.Same(b, a) != (i == k) {
				t.Errorf("Same(%v, %v) is not %v", a, b, i == k)
			}
		}
	}
}

// R2: what is handed in is left as it is, and what is answered is new.
func TestAnew(t *testing.T) {
	body := bytes.Repeat([]byte{9}, 20)
	m := api.Transport{Receiver: 1, Counter: 2, Body: body}
	b, _ := data.Bytes(m)
	want := raw(m)
	clear(body)
	if !bytes.Equal(b, want) {
		t.Error("bytes share memory with the body")
	}
	got, _ := data.Parse(b)
	if !bytes.Equal(b, want) {
		t.Error("Parse writes into what it is given")
	}
	clear(b)
	if !bytes.Equal(got.Body, bytes.Repeat([]byte{9}, 20)) {
		t.Error("the body shares memory with the bytes")
	}
	clear(got.Body)
	if again, _ := data.Parse(want); !bytes.Equal(again.Body, want[16:]) {
		t.Error("a body that was answered is kept")
	}
	roomy := append(make([]byte, 0, 64), want[16:]...)
	more := api.Transport{Body: roomy}
	data.Bytes(more)
	if rest := roomy[:64][20:]; !bytes.Equal(rest, make([]byte, 44)) {
		t.Error("Bytes writes behind the body")
	}
}

// The chapter's example.
func TestExample(t *testing.T) {
	wrong(t, make([]byte, 31), api.ErrShort)
	if data.Size != 16 {
		t.Error("Size:", data.Size)
	}
}
