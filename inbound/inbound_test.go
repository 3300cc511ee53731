package inbound_test

import (
	"bytes"
	"math"
	"math/rand"
	"slices"
	"testing"

	"crawlway/addr"
	"crawlway/api"
	"crawlway/cidr"
	"crawlway/data"
	"crawlway/hostport"
	"crawlway/inbound"
	"crawlway/ipfour"
	"crawlway/ipsix"
	"crawlway/packet"
	"crawlway/padding"
	"crawlway/replay"
	"crawlway/sessions"
	"crawlway/state"
	"crawlway/view"
	"crawlway/wire"
)

var one, two, nobody = api.Key{1}, api.Key{31: 2}, api.Key{9}

// at is the address of a text, end the endpoint, list the prefixes.
func at(s string) api.Addr {
	a, _ := addr.Parse(s)
	return a
}

func end(s string) api.Endpoint {
	e, _ := hostport.Parse(s)
	return e
}

func list(texts ...string) []api.Prefix {
	var l []api.Prefix
	for _, s := range texts {
		p, _ := cidr.Parse(s)
		l = append(l, p)
	}
	return l
}

// seen is where datagrams come from.
func seen() api.Endpoint { return end("192.0.2.77:7777") }

// by is a packet from an address, with so many bytes behind its head.
func by(t *testing.T, src string, n int) []byte {
	t.Helper()
	h, tell := api.Head{Proto: 17, Src: at(src), Dst: at("203.0.113.1")}, ipfour.Put
	if h.Src.V == 6 {
		h.Dst, tell = at("2001:db8::1"), ipsix.Put
	}
	b, fail := tell(h, bytes.Repeat([]byte{3}, n))
	if fail != api.OK {
		t.Fatalf("Put(%v): %v", h, fail)
	}
	return b
}

// padded is a packet from an address, padded.
func padded(t *testing.T, src string) []byte {
	t.Helper()
	b, _ := padding.Pad(by(t, src, 5))
	return b
}

// carries is a datagram to a session with a body of so many bytes and a tag.
func carries(t *testing.T, local uint32, counter uint64, n int) []byte {
	t.Helper()
	b, fail := data.Bytes(api.Transport{Receiver: local, Counter: counter, Body: bytes.Repeat([]byte{200}, n+16)})
	if fail != api.OK {
		t.Fatalf("Bytes: %v", fail)
	}
	return b
}

// made is a state with a peer (one), two sessions of which are there, and another one's (two) with part of the first one's prefixes; and a session of nobody.
func made(t *testing.T) (*state.State, *sessions.Table) {
	t.Helper()
	s, x := state.New(), sessions.New()
	fail := s.Apply(api.Request{Peers: []api.PeerChange{
		{Key: one, HasEnd: true, End: end("192.0.2.1:1001"), Allowed: list("10.0.0.0/8", "fd00::/8")},
		{Key: two, Allowed: list("10.1.0.0/16", "fd00:1::/32")},
	}})
	if fail != api.OK {
		t.Fatalf("Apply: %v", fail)
	}
	for local, k := range []api.Key{one, one, two, nobody} {
		if fail := x.Install(k, uint32(local)+1, 99, 0); fail != api.OK {
			t.Fatalf("Install: %v", fail)
		}
	}
	return s, x
}

func drop(why api.Errno) api.Event { return api.Event{Kind: api.EventDrop, Why: why} }

// tells holds events against those that are due.
func tells(t *testing.T, what string, got []api.Event, want ...api.Event) {
	t.Helper()
	same := func(a, b api.Event) bool {
		return a.Kind == b.Kind && bytes.Equal(a.Bytes, b.Bytes) && a.To == b.To && a.Key == b.Key && a.Why == b.Why
	}
	if !slices.EqualFunc(got, want, same) {
		t.Errorf("%s: %v, not %v", what, got, want)
	}
}

// has asks for a peer's End, and what was got from it.
func has(t *testing.T, s *state.State, k api.Key, e api.Endpoint, got uint64) {
	t.Helper()
	if p, is := s.Peer(k); !is || p.End != e || p.Got != got || p.Sent != 0 {
		t.Errorf("Peer: %v, not %v, %d", p, e, got)
	}
}

// quiet asks for a call that changes nothing that is there.
func quiet(t *testing.T, what string, s *state.State, x *sessions.Table, does func()) {
	t.Helper()
	was := view.Of(s)
	var could [][]bool
	look := func() []bool {
		var l []bool
		for _, local := range x.Locals() {
			with, _ := x.Get(local)
			for n := range uint64(20) {
				l = append(l, with.Can(n))
			}
		}
		return l
	}
	could = append(could, look())
	does()
	could = append(could, look())
	if !view.Same(view.Of(s), was) || !slices.Equal(could[0], could[1]) {
		t.Errorf("%s: something has changed", what)
	}
}

// P48.1: from no right endpoint, whatever else is wrong.
func TestFrom(t *testing.T) {
	s, x := made(t)
	a := at("192.0.2.1")
	wrong := at("192.0.2.1")
	wrong.B[4] = 1
	for _, from := range []api.Endpoint{{}, {A: a}, {Port: 1}, {A: a, Port: -1}, {A: a, Port: 65536}, {A: wrong, Port: 1}, {A: api.Addr{V: 5}, Port: 1}} {
		for _, b := range [][]byte{nil, {5}, append([]byte{1}, make([]byte, 147)...), carries(t, 1, 0, 32), carries(t, 7, 0, 32)} {
			quiet(t, "a wrong endpoint", s, x, func() {
				tells(t, "a wrong endpoint", inbound.Receive(s, x, b, from, padded(t, "10.0.0.1"), true), drop(api.ErrArg))
			})
		}
	}
}

// P48.1: what is no message tells what layer 17 tells.
func TestParse(t *testing.T) {
	s, x := made(t)
	good := carries(t, 1, 0, 32)
	crooked := slices.Clone(good)
	crooked[2] = 1
	for what, c := range map[string]struct {
		b    []byte
		want api.Errno
	}{
		"no bytes":          {nil, api.ErrShort},
		"no kind":           {make([]byte, 64), api.ErrKind},
		"kind 5":            {append([]byte{5}, good[1:]...), api.ErrKind},
		"too short data":    {good[:31], api.ErrShort},
		"too long data":     {append(slices.Clone(good), make([]byte, 65567)...), api.ErrLong},
		"crooked data":      {crooked, api.ErrZero},
		"a short cookie":    {append([]byte{3}, make([]byte, 62)...), api.ErrShort},
		"a long cookie":     {append([]byte{3}, make([]byte, 64)...), api.ErrLong},
		"a short answer":    {append([]byte{2}, make([]byte, 90)...), api.ErrShort},
		"a crooked initial": {append([]byte{1, 1}, make([]byte, 146)...), api.ErrZero},
	} {
		if _, fail := wire.Parse(c.b); fail != c.want {
			t.Fatalf("Parse, %s: %v", what, fail)
		}
		quiet(t, what, s, x, func() {
			tells(t, what, inbound.Receive(s, x, c.b, seen(), padded(t, "10.0.0.1"), true), drop(c.want))
		})
	}
}

// P48.1: what is no data is passed on, whomever it is for, and whatever opening it answered.
func TestPass(t *testing.T) {
	s, x := made(t)
	for kind, size := range map[byte]int{1: 148, 2: 92, 3: 64} {
		b := bytes.Repeat([]byte{1}, size)
		copy(b, []byte{kind, 0, 0, 0})
		for _, from := range []api.Endpoint{seen(), end("192.0.2.1:1001"), end("[2001:db8::1]:65535")} {
			for _, ok := range []bool{false, true} {
				quiet(t, "a pass", s, x, func() {
					tells(t, "a pass", inbound.Receive(s, x, b, from, padded(t, "10.0.0.1"), ok), api.Event{Kind: api.EventPass, Bytes: b, To: from})
				})
			}
		}
	}
}

// P48.1: no session, or a session of nobody; ahead of all that opening it answered.
func TestNone(t *testing.T) {
	s, x := made(t)
	with, _ := x.Get(4)
	with.Take(0)
	for _, local := range []uint32{0, 4, 5, 99, 256 + 1, math.MaxUint32} {
		for _, ok := range []bool{false, true} {
			for _, result := range [][]byte{nil, padded(t, "10.0.0.1")} {
				quiet(t, "no session", s, x, func() {
					tells(t, "no session", inbound.Receive(s, x, carries(t, local, 0, 32), seen(), result, ok), drop(api.ErrNone))
				})
			}
		}
	}
	s.Apply(api.Request{Peers: []api.PeerChange{{Key: one, Remove: true}}})
	tells(t, "a peer that went", inbound.Receive(s, x, carries(t, 1, 0, 32), seen(), padded(t, "10.0.0.1"), true), drop(api.ErrNone))
}

// P48.1: a number that can't be taken, whatever opening it answered.
func TestSeen(t *testing.T) {
	s, x := made(t)
	b := padded(t, "10.0.0.1")
	with, _ := x.Get(1)
	with.Take(5000)
	with.Take(4000)
	for n, can := range map[uint64]bool{
		5000: false, 4000: false, 3015: false, 0: false, 3016: true, 4999: true,
		replay.Limit: false, math.MaxUint64: false, 5001: true,
	} {
		if with.Can(n) != can {
			t.Fatalf("Can(%d): %t", n, !can)
		}
		want := drop(api.ErrSeen)
		if can {
			want = drop(api.ErrOpen)
		}
		for _, result := range [][]byte{nil, b, b[1:]} {
			quiet(t, "a number", s, x, func() {
				tells(t, "a number", inbound.Receive(s, x, carries(t, 1, n, 32), seen(), result, false), want)
			})
		}
		if !can {
			quiet(t, "a number", s, x, func() {
				tells(t, "a number", inbound.Receive(s, x, carries(t, 1, n, 32), seen(), b, true), want)
			})
		}
	}
	// Each session has numbers of its own.
	for _, local := range []uint32{2, 1} {
		tells(t, "another session", inbound.Receive(s, x, carries(t, local, 5001, 32), seen(), b, true), api.Event{Kind: api.EventDeliver, Bytes: by(t, "10.0.0.1", 5), Key: one})
		tells(t, "once more", inbound.Receive(s, x, carries(t, local, 5001, 32), seen(), b, true), drop(api.ErrSeen))
	}
}

// P48.1: what was not opened changes nothing: its number can come yet.
func TestOpen(t *testing.T) {
	s, x := made(t)
	b := padded(t, "10.0.0.1")
	for what, c := range map[string]struct {
		result []byte
		ok     bool
	}{
		"false":              {b, false},
		"false, no bytes":    {nil, false},
		"no bytes":           {nil, true},
		"a byte less":        {b[:31], true},
		"a byte more":        {append(slices.Clone(b), 0), true},
		"with a tag":         {append(slices.Clone(b), make([]byte, 16)...), true},
		"without its tag":    {b[:16], true},
		"stripped already":   {by(t, "10.0.0.1", 5), true},
		"false, a byte less": {b[:31], false},
	} {
		quiet(t, what, s, x, func() {
			tells(t, what, inbound.Receive(s, x, carries(t, 1, 0, 32), seen(), c.result, c.ok), drop(api.ErrOpen))
		})
	}
	quiet(t, "nothing that is not opened", s, x, func() {
		tells(t, "nothing that is not opened", inbound.Receive(s, x, carries(t, 1, 0, 0), seen(), nil, false), drop(api.ErrOpen))
		tells(t, "a byte in nothing", inbound.Receive(s, x, carries(t, 1, 0, 0), seen(), []byte{0}, true), drop(api.ErrOpen))
	})
	has(t, s, one, end("192.0.2.1:1001"), 0)
	tells(t, "at last", inbound.Receive(s, x, carries(t, 1, 0, 32), seen(), b, true), api.Event{Kind: api.EventDeliver, Bytes: by(t, "10.0.0.1", 5), Key: one})
}

// P48.1: what is opened is counted, its number taken, and its peer seen, though nothing is in it, or nothing that is delivered.
func TestCount(t *testing.T) {
	sum := padded(t, "10.0.0.1")
	sum[8]++
	for what, c := range map[string]struct {
		result []byte
		want   []api.Event
	}{
		"nothing":                {nil, nil},
		"a packet":               {padded(t, "10.0.0.1"), []api.Event{{Kind: api.EventDeliver, Bytes: by(t, "10.0.0.1", 5), Key: one}}},
		"bytes 0":                {make([]byte, 32), []api.Event{drop(api.ErrKind)}},
		"one byte 0":             {make([]byte, 1), []api.Event{drop(api.ErrKind)}},
		"a packet's front":       {padded(t, "10.0.0.1")[:24], []api.Event{drop(api.ErrShort)}},
		"a bad sum":              {sum, []api.Event{drop(api.ErrSum)}},
		"nobody's":               {padded(t, "11.0.0.1"), []api.Event{drop(api.ErrOwner)}},
		"another one's":          {padded(t, "10.1.0.1"), []api.Event{drop(api.ErrOwner)}},
		"another one's, six":     {by(t, "fd00:1::1", 5), []api.Event{drop(api.ErrOwner)}},
		"nobody's, six":          {by(t, "fe00::1", 5), []api.Event{drop(api.ErrOwner)}},
		"a packet of family six": {by(t, "fd00::1", 5), []api.Event{{Kind: api.EventDeliver, Bytes: by(t, "fd00::1", 5), Key: one}}},
	} {
		for _, local := range []uint32{1, 2} {
			s, x := made(t)
			b := carries(t, local, 7, len(c.result))
			tells(t, what, inbound.Receive(s, x, b, seen(), c.result, true), c.want...)
			has(t, s, one, seen(), uint64(len(b)))
			has(t, s, two, api.Endpoint{}, 0)
			tells(t, what+", once more", inbound.Receive(s, x, b, end("192.0.2.78:1"), c.result, true), drop(api.ErrSeen))
			has(t, s, one, seen(), uint64(len(b)))
			tells(t, what+", the next one", inbound.Receive(s, x, carries(t, local, 8, len(c.result)), end("192.0.2.78:1"), c.result, true), c.want...)
			has(t, s, one, end("192.0.2.78:1"), 2*uint64(len(b)))
			with, _ := x.Get(3 - local)
			if !with.Can(7) || !with.Can(8) {
				t.Errorf("%s: a number of another session was taken", what)
			}
			if with, _ := x.Get(local); with.Top() != 8 {
				t.Errorf("%s: Top: %d", what, with.Top())
			}
		}
	}
}

// P48.1: a packet without what stands behind it, up to the longest one.
func TestDeliver(t *testing.T) {
	s, x := made(t)
	sum := uint64(0)
	for n, size := range []int{0, 1, 12, 13, 1000, 65500, 65514, 65515} {
		want := by(t, "10.1.255.255", size)
		for i, result := range [][]byte{want, append(slices.Clone(want), 9), append(slices.Clone(want), make([]byte, 40)...)} {
			if len(result) > api.MaxPacket {
				continue
			}
			b := carries(t, 3, uint64(3*n+i), len(result))
			tells(t, "a packet", inbound.Receive(s, x, b, seen(), result, true), api.Event{Kind: api.EventDeliver, Bytes: want, Key: two})
			sum += uint64(len(b))
		}
	}
	has(t, s, two, seen(), sum)
	has(t, s, one, end("192.0.2.1:1001"), 0)
}

// P48.2: what is delivered is a whole packet, whose sender is the peer's; no number of one session is taken twice.
func TestFollows(t *testing.T) {
	source := rand.New(rand.NewSource(48))
	s, x := made(t)
	type number struct {
		local uint32
		n     uint64
	}
	taken := map[number]int{}
	got := map[api.Key]uint64{}
	senders := []string{"10.0.0.1", "10.1.0.1", "10.255.0.1", "11.0.0.1", "fd00::1", "fd00:1::1", "fe00::1"}
	owners := []api.Key{one, two, one, {}, one, two, {}}
	delivered := 0
	for range 20000 {
		i := source.Intn(len(senders))
		result := by(t, senders[i], source.Intn(20))
		if source.Intn(2) == 0 {
			result, _ = padding.Pad(result)
		}
		if source.Intn(9) == 0 {
			result = result[:source.Intn(len(result))]
		}
		at := number{uint32(1 + source.Intn(3)), uint64(source.Intn(3000))}
		k := []api.Key{{}, one, one, two}[at.local]
		ok := source.Intn(9) > 0
		with, _ := x.Get(at.local)
		fresh := taken[at] == 0 && (!with.Some() || at.n+replay.Wide >= with.Top())
		b := carries(t, at.local, at.n, len(result))
		l := inbound.Receive(s, x, b, seen(), result, ok)
		whole, fail := padding.Strip(result)
		switch {
		case !fresh:
			tells(t, "seen", l, drop(api.ErrSeen))
			continue
		case !ok:
			tells(t, "not opened", l, drop(api.ErrOpen))
			continue
		case len(result) == 0:
			tells(t, "nothing", l)
		case fail != api.OK:
			tells(t, "no packet", l, drop(fail))
		case owners[i] != k:
			tells(t, "not its own", l, drop(api.ErrOwner))
		default:
			tells(t, "a packet", l, api.Event{Kind: api.EventDeliver, Bytes: whole, Key: k})
			if !packet.Whole(l[0].Bytes) {
				t.Fatalf("Receive: %v", l)
			}
			delivered++
		}
		taken[at]++
		got[k] += uint64(len(b))
	}
	for n, times := range taken {
		if times != 1 {
			t.Errorf("%v: %d times", n, times)
		}
	}
	if delivered < 500 {
		t.Errorf("%d delivered", delivered)
	}
	has(t, s, one, seen(), got[one])
	has(t, s, two, seen(), got[two])
}

// R2: what is answered is new, and what is handed in is as it was.
func TestAnew(t *testing.T) {
	s, x := made(t)
	for n, c := range []struct{ b, result []byte }{
		{carries(t, 1, 0, 32), padded(t, "10.0.0.1")},
		{carries(t, 1, 1, 25), by(t, "10.0.0.1", 5)},
		{append([]byte{3}, make([]byte, 63)...), nil},
	} {
		keptB, keptResult := slices.Clone(c.b), slices.Clone(c.result)
		l := inbound.Receive(s, x, c.b, seen(), c.result, true)
		if len(l) != 1 || len(l[0].Bytes) == 0 {
			t.Fatalf("Receive, %d: %v", n, l)
		}
		told := slices.Clone(l[0].Bytes)
		if !bytes.Equal(c.b, keptB) || !bytes.Equal(c.result, keptResult) {
			t.Errorf("Receive, %d: what was handed in is changed", n)
		}
		clear(c.b)
		clear(c.result)
		if !bytes.Equal(l[0].Bytes, told) {
			t.Errorf("Receive, %d: an event shares memory with what was handed in", n)
		}
	}
}

// P1: of nil, and of zero ones, there is no session, or no peer.
func TestNil(t *testing.T) {
	full, with := made(t)
	b, result := carries(t, 1, 0, 32), padded(t, "10.0.0.1")
	pass := append([]byte{3}, make([]byte, 63)...)
	for _, s := range []*state.State{nil, {}, state.New(), full} {
		for _, x := range []*sessions.Table{nil, {}, sessions.New(), with} {
			if s == full && x == with {
				continue
			}
			tells(t, "nothing", inbound.Receive(s, x, nil, seen(), nil, false), drop(api.ErrShort))
			tells(t, "a wrong endpoint", inbound.Receive(s, x, b, api.Endpoint{}, result, true), drop(api.ErrArg))
			tells(t, "data", inbound.Receive(s, x, b, seen(), result, true), drop(api.ErrNone))
			tells(t, "a pass", inbound.Receive(s, x, pass, seen(), result, true), api.Event{Kind: api.EventPass, Bytes: pass, To: seen()})
		}
	}
}

// P1: whatever the bytes are, there is one event at most.
func TestWild(t *testing.T) {
	source := rand.New(rand.NewSource(1))
	s, x := made(t)
	for range 20000 {
		b := carries(t, uint32(source.Intn(5)), uint64(source.Intn(99)), source.Intn(60))
		if source.Intn(4) == 0 {
			b = b[:source.Intn(len(b))]
		}
		for range source.Intn(3) {
			if len(b) > 0 {
				b[source.Intn(len(b))] ^= 1 << source.Intn(8)
			}
		}
		result := make([]byte, source.Intn(60))
		source.Read(result)
		if l := inbound.Receive(s, x, b, seen(), result, source.Intn(2) == 0); len(l) > 1 {
			t.Fatalf("Receive(%v): %v", b, l)
		}
	}
}

// The chapter's example.
func TestExample(t *testing.T) {
	s, x := made(t)
	for _, b := range [][]byte{nil, {}} {
		tells(t, "no bytes", inbound.Receive(s, x, b, seen(), nil, true), drop(api.ErrShort))
	}
}
