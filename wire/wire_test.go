package wire_test

import (
	"bytes"
	"math"
	"math/rand"
	"testing"

	"crawlway/answer"
	"crawlway/api"
	"crawlway/cookie"
	"crawlway/data"
	"crawlway/initial"
	"crawlway/wire"
)

// noKinds are numbers that are no kind; the last ones would be, if they were cut to fewer bits.
func noKinds() []int {
	return []int{0, 5, 6, 9, -1, -2, -4, 255, math.MaxInt, math.MinInt, 256 + 1, 1<<16 + 2, 1<<32 + 3, 1<<32 + 4}
}

// full is a message that says something in all fields, whatever its kind.
func full(source *rand.Rand, kind int) api.Message {
	b := make([]byte, 200)
	source.Read(b)
	m := api.Message{Kind: kind, T: api.Transport{Receiver: source.Uint32(), Counter: source.Uint64(), Body: bytes.Clone(b[:16+source.Intn(99)])}}
	copy(b, []byte{1, 0, 0, 0})
	m.I, _ = initial.Parse(b[:initial.Size])
	b[0] = 2
	m.R, _ = answer.Parse(b[:answer.Size])
	b[0] = 3
	m.C, _ = cookie.Parse(b[:cookie.Size])
	m.R.Receiver, m.C.Receiver = source.Uint32(), source.Uint32()
	return m
}

// lone is what full is of its kind alone.
func lone(m api.Message) api.Message {
	switch m.Kind {
	case 1:
		return api.Message{Kind: 1, I: m.I}
	case 2:
		return api.Message{Kind: 2, R: m.R}
	case 3:
		return api.Message{Kind: 3, C: m.C}
	case 4:
		return api.Message{Kind: 4, T: m.T}
	}
	return api.Message{}
}

// below are a message's bytes by the layer of its kind.
func below(m api.Message) ([]byte, api.Errno) {
	switch m.Kind {
	case 1:
		return initial.Bytes(m.I), api.OK
	case 2:
		return answer.Bytes(m.R), api.OK
	case 3:
		return cookie.Bytes(m.C), api.OK
	}
	return data.Bytes(m.T)
}

// zero tells whether nothing stands in a message.
func zero(m api.Message) bool {
	return m.Kind == 0 && m.I == api.Initiation{} && m.R == api.Response{} && m.C == api.Cookie{} && m.T.Receiver == 0 && m.T.Counter == 0 && len(m.T.Body) == 0
}

// P17.1, P17.2, P17.4: there and back, by the kind alone; the other fields count for nothing, and none is told.
func TestBack(t *testing.T) {
	source := rand.New(rand.NewSource(17))
	for range 100 {
		for kind, size := range map[int]int{1: 148, 2: 92, 3: 64, 4: 0} {
			m := full(source, kind)
			if kind == 4 {
				size = 16 + len(m.T.Body)
			}
			b, fail := wire.Bytes(m)
			want, _ := below(m)
			if !bytes.Equal(b, want) || len(b) != size || int(b[0]) != kind || fail != api.OK {
				t.Fatalf("Bytes(%v): %v, %v", m, b, fail)
			}
			got, fail := wire.Parse(b)
			if !wire.Same(got, lone(m)) || fail != api.OK {
				t.Fatalf("Parse(%v): %v, %v", b, got, fail)
			}
			if again, fail := wire.Bytes(got); !bytes.Equal(again, b) || fail != api.OK {
				t.Fatalf("Bytes(%v): %v, %v", got, again, fail)
			}
		}
	}
}

// P17.1: no kind, and a body that data does not take.
func TestBytesWrong(t *testing.T) {
	source := rand.New(rand.NewSource(1))
	for _, kind := range noKinds() {
		if b, fail := wire.Bytes(full(source, kind)); b != nil || fail != api.ErrKind {
			t.Errorf("Bytes of kind %d: %v, %v", kind, b, fail)
		}
	}
	for size, want := range map[int]api.Errno{0: api.ErrShort, 15: api.ErrShort, 16: api.OK, 65551: api.OK, 65552: api.ErrLong} {
		m := api.Message{Kind: api.Data, T: api.Transport{Body: make([]byte, size)}}
		if b, fail := wire.Bytes(m); fail != want || (fail != api.OK && b != nil) {
			t.Errorf("Bytes of a body of %d: %d bytes, %v", size, len(b), fail)
		}
		for kind := 1; kind <= 3; kind++ {
			m.Kind = kind
			if _, fail := wire.Bytes(m); fail != api.OK {
				t.Errorf("Bytes of kind %d with a body of %d: %v", kind, size, fail)
			}
		}
	}
}

// P17.2: no bytes, no kind, and the errors of the kind's own layer.
func TestParseWrong(t *testing.T) {
	wrong := func(b []byte, want api.Errno) {
		t.Helper()
		if m, fail := wire.Parse(b); fail != want || !zero(m) {
			t.Errorf("Parse of %d bytes: %v, %v", len(b), m, fail)
		}
	}
	wrong(nil, api.ErrShort)
	wrong([]byte{}, api.ErrShort)
	for first := range 256 {
		if first >= 1 && first <= 4 {
			continue
		}
		for _, size := range []int{1, 4, 31, 32, 64, 92, 148, 65567, 65568} {
			b := make([]byte, size)
			b[0] = byte(first)
			wrong(b, api.ErrKind)
		}
	}
	for kind, size := range map[byte][2]int{1: {148, 148}, 2: {92, 92}, 3: {64, 64}, 4: {32, 65567}} {
		b := make([]byte, 65600)
		b[0] = kind
		for _, n := range []int{1, 4, size[0] - 1} {
			wrong(b[:n], api.ErrShort)
		}
		wrong(b[:size[1]+1], api.ErrLong)
		for place := 1; place <= 3; place++ {
			b[place] = 1
			wrong(b[:size[0]], api.ErrZero)
			wrong(b[:size[1]], api.ErrZero)
			wrong(b[:size[0]-1], api.ErrShort)
			wrong(b[:size[1]+1], api.ErrLong)
			b[place] = 0
		}
		for _, n := range size {
			if m, fail := wire.Parse(b[:n]); m.Kind != int(kind) || fail != api.OK {
				t.Errorf("Parse of %d bytes of kind %d: %v", n, kind, fail)
			}
		}
	}
}

// P17.3: by the kind alone.
func TestReceiver(t *testing.T) {
	source := rand.New(rand.NewSource(3))
	for range 20 {
		m := full(source, 0)
		for kind, want := range map[int]uint32{2: m.R.Receiver, 3: m.C.Receiver, 4: m.T.Receiver} {
			m.Kind = kind
			if n, is := wire.Receiver(m); n != want || !is {
				t.Errorf("Receiver of kind %d: %d, %v, not %d", kind, n, is, want)
			}
			if n, is := wire.Receiver(api.Message{Kind: kind}); n != 0 || !is {
				t.Errorf("Receiver of kind %d: %d, %v, not 0", kind, n, is)
			}
		}
		for _, kind := range append(noKinds(), 1) {
			m.Kind = kind
			if n, is := wire.Receiver(m); n != 0 || is {
				t.Errorf("Receiver of kind %d: %d, %v", kind, n, is)
			}
		}
	}
}

// P17.3: each field of both counts, whatever the kind, and no body is a body without bytes (R1).
func TestSame(t *testing.T) {
	changes := []func(m *api.Message){
		func(m *api.Message) {},
		func(m *api.Message) { m.Kind += 1 << 40 },
		func(m *api.Message) { m.I.Sender++ },
		func(m *api.Message) { m.I.Ephemeral[31]++ },
		func(m *api.Message) { m.I.Static[47]++ },
		func(m *api.Message) { m.I.Stamp[27]++ },
		func(m *api.Message) { m.I.Mac1[15]++ },
		func(m *api.Message) { m.I.Mac2[15]++ },
		func(m *api.Message) { m.R.Sender++ },
		func(m *api.Message) { m.R.Receiver++ },
		func(m *api.Message) { m.R.Ephemeral[0]++ },
		func(m *api.Message) { m.R.Empty[0]++ },
		func(m *api.Message) { m.R.Mac1[0]++ },
		func(m *api.Message) { m.R.Mac2[0]++ },
		func(m *api.Message) { m.C.Receiver++ },
		func(m *api.Message) { m.C.Nonce[23]++ },
		func(m *api.Message) { m.C.Sealed[31]++ },
		func(m *api.Message) { m.T.Receiver++ },
		func(m *api.Message) { m.T.Counter++ },
		func(m *api.Message) { m.T.Body = append(m.T.Body, 0) },
		func(m *api.Message) { m.T.Body = append(m.T.Body, 1) },
	}
	for kind := range 6 {
		for i, first := range changes {
			for k, second := range changes {
				a, b := full(rand.New(rand.NewSource(4)), kind), full(rand.New(rand.NewSource(4)), kind)
				first(&a)
				second(&b)
				if wire.Same(a, b) != (i == k) {
					t.Errorf("Same of kind %d, changes %d and %d, is not %v", kind, i, k, i == k)
				}
			}
		}
	}
	if !wire.Same(api.Message{}, api.Message{T: api.Transport{Body: []byte{}}}) {
		t.Error("no body is not a body without bytes")
	}
}

// P17.3: four names, and no others.
func TestName(t *testing.T) {
	for kind, want := range map[int]string{api.Initial: "initiation", api.Answer: "response", api.Cookies: "cookie", api.Data: "data"} {
		if got := wire.Name(kind); got != want {
			t.Errorf("Name(%d): %s", kind, got)
		}
	}
	for _, kind := range noKinds() {
		if got := wire.Name(kind); got != "" {
			t.Errorf("Name(%d): %s", kind, got)
		}
	}
}

// R2: what is handed in is left as it is, and what is answered is new.
func TestAnew(t *testing.T) {
	for kind := 1; kind <= 4; kind++ {
		m, kept := full(rand.New(rand.NewSource(5)), kind), full(rand.New(rand.NewSource(5)), kind)
		want, _ := wire.Bytes(kept)
		b, _ := wire.Bytes(m)
		wire.Receiver(m)
		clear(b)
		if !wire.Same(m, kept) {
			t.Errorf("kind %d: bytes share memory with a message", kind)
		}
		b = bytes.Clone(want)
		got, _ := wire.Parse(b)
		if !bytes.Equal(b, want) {
			t.Errorf("kind %d: Parse writes into what it is given", kind)
		}
		clear(b)
		if !wire.Same(got, lone(kept)) {
			t.Errorf("kind %d: a message shares memory with bytes", kind)
		}
	}
}

// The chapter's example.
func TestExample(t *testing.T) {
	if m, fail := wire.Parse([]byte{5}); fail != api.ErrKind || !zero(m) {
		t.Errorf("Parse: %v, %v", m, fail)
	}
}
