package outbound_test

import (
	"bytes"
	"encoding/binary"
	"math/rand"
	"slices"
	"testing"

	"crawlway/addr"
	"crawlway/api"
	"crawlway/cidr"
	"crawlway/data"
	"crawlway/hostport"
	"crawlway/ipfour"
	"crawlway/ipsix"
	"crawlway/outbound"
	"crawlway/packet"
	"crawlway/padding"
	"crawlway/refuse"
	"crawlway/replay"
	"crawlway/sessions"
	"crawlway/state"
	"crawlway/view"
)

var one, two, three, four, five = api.Key{1}, api.Key{2}, api.Key{3}, api.Key{31: 4}, api.Key{5}

const from = "10.9.9.9"

// at is the address of a text, end the endpoint, list the prefixes.
func at(s string) api.Addr {
	a, _ := addr.Parse(s)
	return a
}

func end(s string) api.Endpoint {
	e, _ := hostport.Parse(s)
	return e
}

func list(texts ...string) []api.Prefix {
	var l []api.Prefix
	for _, s := range texts {
		p, _ := cidr.Parse(s)
		l = append(l, p)
	}
	return l
}

// put is a packet between two addresses of one family, with so many bytes behind its head.
func put(t *testing.T, h api.Head, src, dst string, n int) []byte {
	t.Helper()
	h.Src, h.Dst = at(src), at(dst)
	tell := ipfour.Put
	if h.Src.V == 6 {
		tell = ipsix.Put
	}
	b, fail := tell(h, bytes.Repeat([]byte{3}, n))
	if fail != api.OK {
		t.Fatalf("Put(%v): %v", h, fail)
	}
	return b
}

// to is a packet to an address, to which an answer is due.
func to(t *testing.T, dst string) []byte {
	t.Helper()
	src := from
	if at(dst).V == 6 {
		src = "fd99::9"
	}
	return put(t, api.Head{Proto: 17, Ttl: 9}, src, dst, 5)
}

// made is a state with a peer (one) and part of its prefixes another one's (two); of three there is no End, of four no session, of five no number that is left.
func made(t *testing.T) (*state.State, *sessions.Table) {
	t.Helper()
	s, x := state.New(), sessions.New()
	fail := s.Apply(api.Request{Peers: []api.PeerChange{
		{Key: one, HasEnd: true, End: end("192.0.2.1:1001"), Allowed: list("10.0.0.0/8", "fd00::/8")},
		{Key: two, HasEnd: true, End: end("[2001:db8::2]:1002"), Allowed: list("10.1.0.0/16", "fd00:1::/32")},
		{Key: three, Allowed: list("10.3.0.0/16")},
		{Key: four, HasEnd: true, End: end("192.0.2.4:1004"), Allowed: list("10.4.0.0/16", "fd00:4::/32")},
		{Key: five, HasEnd: true, End: end("192.0.2.5:1005"), Allowed: list("10.5.0.0/16")},
	}})
	if fail != api.OK {
		t.Fatalf("Apply: %v", fail)
	}
	for _, y := range []struct {
		k             api.Key
		local, remote uint32
		next          uint64
	}{{one, 1, 0x01020304, 5}, {two, 2, 72, 0}, {three, 3, 73, 0}, {five, 5, 75, replay.Limit}} {
		if fail := x.Install(y.k, y.local, y.remote, y.next); fail != api.OK {
			t.Fatalf("Install: %v", fail)
		}
	}
	return s, x
}

// sealed is a result for a packet, as if it had been sealed.
func sealed(b []byte) []byte {
	padded, _ := padding.Pad(b)
	return append(bytes.Repeat([]byte{200}, 16), padded...)
}

func drop(why api.Errno) api.Event { return api.Event{Kind: api.EventDrop, Why: why} }

// tells holds events against those that are due.
func tells(t *testing.T, what string, got []api.Event, want ...api.Event) {
	t.Helper()
	same := func(a, b api.Event) bool {
		return a.Kind == b.Kind && bytes.Equal(a.Bytes, b.Bytes) && a.To == b.To && a.Key == b.Key && a.Why == b.Why
	}
	if !slices.EqualFunc(got, want, same) {
		t.Errorf("%s: %v, not %v", what, got, want)
	}
}

// routes asks whose a packet is.
func routes(t *testing.T, what string, s *state.State, x *sessions.Table, b []byte, k api.Key, want api.Errno) {
	t.Helper()
	if got, fail := outbound.Route(s, x, b); got != k || fail != want {
		t.Errorf("Route, %s: %v, %v, not %v, %v", what, got, fail, k, want)
	}
}

// P47.1: each error, and whose it is; Send drops of just these, and refuses of no others than ErrRoute and ErrAway.
func TestRoute(t *testing.T) {
	sum := to(t, "11.0.0.1")
	sum[10]++
	long := append(put(t, api.Head{}, "fd99::9", "fe00::1", 0), make([]byte, 65535)...)
	long[4], long[5] = 255, 255
	for what, c := range map[string]struct {
		b    []byte
		k    api.Key
		fail api.Errno
	}{
		"no bytes":               {nil, api.Key{}, api.ErrShort},
		"one byte":               {[]byte{0x45}, api.Key{}, api.ErrShort},
		"another family":         {make([]byte, 40), api.Key{}, api.ErrKind},
		"a bad sum":              {sum, api.Key{}, api.ErrSum},
		"a byte less":            {to(t, "10.0.0.1")[:24], api.Key{}, api.ErrShort},
		"a byte more":            {append(to(t, "10.0.0.1"), 0), api.Key{}, api.ErrForm},
		"a byte more, to nobody": {append(to(t, "11.0.0.1"), 0), api.Key{}, api.ErrForm},
		"a byte more, family 6":  {append(to(t, "fd00::1"), 0), api.Key{}, api.ErrForm},
		"more than a packet has": {long, api.Key{}, api.ErrForm},
		"nobody's":               {to(t, "11.0.0.1"), api.Key{}, api.ErrRoute},
		"nobody's, family 6":     {to(t, "fe00::1"), api.Key{}, api.ErrRoute},
		"one's":                  {to(t, "10.0.0.1"), one, api.OK},
		"one's, the last":        {to(t, "10.255.255.255"), one, api.OK},
		"one's, family 6":        {to(t, "fd00::1"), one, api.OK},
		"one's, multicast from":  {put(t, api.Head{}, "224.0.0.1", "10.0.0.1", 0), one, api.OK},
		"one's, an error":        {put(t, api.Head{Proto: 1}, from, "10.0.0.1", 9), one, api.OK},
		"two's":                  {to(t, "10.1.2.3"), two, api.OK},
		"two's, family 6":        {to(t, "fd00:1::7"), two, api.OK},
		"without an end":         {to(t, "10.3.0.1"), api.Key{}, api.ErrAway},
		"without a session":      {to(t, "10.4.0.1"), api.Key{}, api.ErrAway},
		"without a number":       {to(t, "10.5.0.1"), api.Key{}, api.ErrSpent},
	} {
		s, x := made(t)
		was := view.Of(s)
		routes(t, what, s, x, c.b, c.k, c.fail)
		if !view.Same(view.Of(s), was) {
			t.Errorf("Route, %s: changes the state", what)
		}
		if c.fail == api.OK {
			continue
		}
		want := []api.Event{drop(c.fail)}
		if c.fail == api.ErrRoute || c.fail == api.ErrAway {
			m, _ := refuse.Answer(c.b)
			want = []api.Event{{Kind: api.EventRefuse, Bytes: m}, drop(c.fail)}
		}
		tells(t, what, outbound.Send(s, x, c.b, sealed(c.b), true), want...)
		if !view.Same(view.Of(s), was) {
			t.Errorf("Send, %s: changes the state", what)
		}
	}
}

// P47.1: Route sends no number, however often it is asked.
func TestRouteQuiet(t *testing.T) {
	s, x := made(t)
	b := to(t, "10.0.0.1")
	for range 9 {
		routes(t, "again", s, x, b, one, api.OK)
	}
	with, _ := x.Current(one)
	if n, _ := with.Send(); n != 5 {
		t.Errorf("Send: %d", n)
	}
}

// P47.1: what is wrong first tells: an End that lacks ahead of a number that does; the current session alone counts.
func TestRouteSessions(t *testing.T) {
	s, x := made(t)
	b := to(t, "10.3.0.1")
	x.Forget(3)
	routes(t, "neither end nor session", s, x, b, api.Key{}, api.ErrAway)
	x.Install(three, 3, 73, replay.Limit)
	routes(t, "neither end nor number", s, x, b, api.Key{}, api.ErrAway)
	s.Seen(three, end("192.0.2.3:1003"))
	routes(t, "no number", s, x, b, api.Key{}, api.ErrSpent)
	x.Install(three, 33, 733, replay.Limit-1)
	routes(t, "one number", s, x, b, three, api.OK)
	if l := outbound.Send(s, x, b, sealed(b), true); len(l) != 1 || l[0].Kind != api.EventSend {
		t.Errorf("Send: %v", l)
	}
	routes(t, "no number any more", s, x, b, api.Key{}, api.ErrSpent)
	tells(t, "no number any more", outbound.Send(s, x, b, sealed(b), true), drop(api.ErrSpent))
	x.Forget(3)
	x.Install(three, 3, 73, 0)
	x.Install(three, 34, 734, replay.Limit+1)
	routes(t, "a number of the one ahead of it", s, x, b, api.Key{}, api.ErrSpent)
	x.Forget(34)
	routes(t, "the one ahead of it", s, x, b, three, api.OK)
	x.Drop(three)
	routes(t, "none", s, x, b, api.Key{}, api.ErrAway)
}

// P47.2: if no answer is due, a packet without a way is dropped alone.
func TestSendNotDue(t *testing.T) {
	s, x := made(t)
	for what, b := range map[string][]byte{
		"from nowhere":   put(t, api.Head{}, "0.0.0.0", "11.0.0.1", 5),
		"from many":      put(t, api.Head{}, "224.0.0.1", "11.0.0.1", 5),
		"to many":        put(t, api.Head{}, from, "224.0.0.1", 5),
		"an error":       put(t, api.Head{Proto: 1}, from, "11.0.0.1", 5),
		"a second part":  put(t, api.Head{Frag: 1}, from, "11.0.0.1", 5),
		"to many, six":   put(t, api.Head{}, "fd99::9", "ff02::1", 5),
		"an error, six":  put(t, api.Head{Proto: 58}, "fd99::9", "fe00::1", 5),
		"from none, six": put(t, api.Head{}, "::", "fe00::1", 5),
	} {
		tells(t, what, outbound.Send(s, x, b, sealed(b), true), drop(api.ErrRoute))
	}
	for what, b := range map[string][]byte{
		"without an end":    put(t, api.Head{Proto: 1}, from, "10.3.0.1", 5),
		"without a session": put(t, api.Head{}, "::", "fd00:4::1", 5),
	} {
		tells(t, what, outbound.Send(s, x, b, sealed(b), true), drop(api.ErrAway))
	}
	// An answer is itself an error: to it none is due.
	m, _ := refuse.Answer(to(t, "11.0.0.1"))
	s.Apply(api.Request{Peers: []api.PeerChange{{Key: one, Replace: true}}})
	tells(t, "an answer", outbound.Send(s, x, m, sealed(m), true), drop(api.ErrRoute))
}

// P47.2: a refusal goes to whom the packet came from.
func TestSendRefuses(t *testing.T) {
	s, x := made(t)
	for _, dst := range []string{"11.0.0.1", "fe00::1", "10.3.0.1", "10.4.0.1", "fd00:4::1"} {
		b := to(t, dst)
		l := outbound.Send(s, x, b, nil, false)
		if len(l) != 2 || l[0].Kind != api.EventRefuse || l[1].Kind != api.EventDrop {
			t.Fatalf("Send to %s: %v", dst, l)
		}
		h, fail := packet.Parse(l[0].Bytes)
		was, _ := packet.Parse(b)
		if fail != api.OK || h.Dst != was.Src || h.Src != was.Dst || !packet.IsError(l[0].Bytes) {
			t.Errorf("Send to %s: %v, %v", dst, h, fail)
		}
	}
}

// P47.2: the message, byte by byte, to whom it goes, and what is counted.
func TestSend(t *testing.T) {
	s, x := made(t)
	b := to(t, "10.0.0.1")
	result := sealed(b)
	want := append([]byte{4, 0, 0, 0, 4, 3, 2, 1, 5, 0, 0, 0, 0, 0, 0, 0}, result...)
	tells(t, "the first one", outbound.Send(s, x, b, result, true), api.Event{Kind: api.EventSend, Bytes: want, To: end("192.0.2.1:1001"), Key: one})
	s.Seen(one, end("[2001:db8::1]:7"))
	want[8] = 6
	tells(t, "to where it was seen", outbound.Send(s, x, b, result, true), api.Event{Kind: api.EventSend, Bytes: want, To: end("[2001:db8::1]:7"), Key: one})
	b = to(t, "fd00:1::1")
	result = sealed(b)
	want = append([]byte{4, 0, 0, 0, 72, 0, 0, 0, 0, 0, 0, 0, 0, 0, 0, 0}, result...)
	tells(t, "family 6", outbound.Send(s, x, b, result, true), api.Event{Kind: api.EventSend, Bytes: want, To: end("[2001:db8::2]:1002"), Key: two})
	for k, sent := range map[api.Key]uint64{one: 128, two: 80, three: 0, four: 0, five: 0} {
		if p, _ := s.Peer(k); p.Sent != sent || p.Got != 0 {
			t.Errorf("Peer(%v): %v", k, p)
		}
	}
	x.Install(one, 11, 711, 1<<40)
	l := outbound.Send(s, x, to(t, "10.0.0.1"), sealed(to(t, "10.0.0.1")), true)
	if m, fail := data.Parse(l[0].Bytes); fail != api.OK || m.Receiver != 711 || m.Counter != 1<<40 {
		t.Errorf("Send by a new session: %v, %v", m, fail)
	}
}

// P47.2: a packet of each size, up to the longest one, and a result that is a byte too short, or too long.
func TestSendSizes(t *testing.T) {
	s, x := made(t)
	n := uint64(5)
	for _, size := range []int{0, 1, 11, 12, 13, 28, 29, 1400, 65499, 65500, 65501, 65514, 65515} {
		b := put(t, api.Head{}, from, "10.0.0.1", size)
		whole := padding.Size(len(b)) + 16
		for _, have := range []int{0, 16, len(b), padding.Size(len(b)), whole - 1, whole, whole + 1, whole + 16} {
			result := bytes.Repeat([]byte{byte(n)}, have)
			l := outbound.Send(s, x, b, result, true)
			if have != whole {
				tells(t, "a wrong size", l, drop(api.ErrSeal))
			} else if len(l) != 1 || len(l[0].Bytes) != whole+16 || !bytes.Equal(l[0].Bytes[16:], result) || binary.LittleEndian.Uint64(l[0].Bytes[8:]) != n {
				t.Errorf("Send of %d bytes: %v", len(b), l)
			}
			n++
		}
	}
}

// P47.2: what can not be sealed is not counted, but its number is gone.
func TestSendSeal(t *testing.T) {
	s, x := made(t)
	b := to(t, "10.0.0.1")
	was := view.Of(s)
	for what, c := range map[string]struct {
		result []byte
		ok     bool
	}{
		"false":             {sealed(b), false},
		"false, no bytes":   {nil, false},
		"no bytes":          {nil, true},
		"not padded":        {make([]byte, len(b)+16), true},
		"without a tag":     {make([]byte, 32), true},
		"a byte less":       {sealed(b)[1:], true},
		"a byte more":       {append(sealed(b), 0), true},
		"another tag":       {make([]byte, 64), true},
		"false, a byte off": {sealed(b)[1:], false},
	} {
		tells(t, what, outbound.Send(s, x, b, c.result, c.ok), drop(api.ErrSeal))
	}
	if !view.Same(view.Of(s), was) {
		t.Errorf("Of: %v, not %v", view.Of(s), was)
	}
	l := outbound.Send(s, x, b, sealed(b), true)
	if m, fail := data.Parse(l[0].Bytes); fail != api.OK || m.Counter != 5+9 {
		t.Errorf("Send: %v, %v", m, fail)
	}
}

// R4: what has no way takes no number, of nobody.
func TestSendNoNumber(t *testing.T) {
	s, x := made(t)
	for _, b := range [][]byte{nil, to(t, "11.0.0.1"), to(t, "10.3.0.1"), to(t, "10.4.0.1"), to(t, "10.5.0.1"), append(to(t, "10.0.0.1"), 0)} {
		outbound.Send(s, x, b, sealed(to(t, "10.0.0.1")), true)
	}
	for k, want := range map[api.Key]uint64{one: 5, two: 0, three: 0} {
		with, _ := x.Current(k)
		if n, fail := with.Send(); n != want || fail != api.OK {
			t.Errorf("Send of %v: %d, %v", k, n, fail)
		}
	}
}

// owner is who owns the longest prefix of those of made, told by itself.
func owner(a [4]byte) api.Key {
	switch {
	case a[0] != 10:
		return api.Key{}
	case a[1] == 1:
		return two
	case a[1] == 3:
		return three
	case a[1] == 4:
		return four
	case a[1] == 5:
		return five
	}
	return one
}

// P47.3: what is sent goes to the owner of the longest prefix, with numbers that rise by one each.
func TestFollows(t *testing.T) {
	source := rand.New(rand.NewSource(47))
	s, x := made(t)
	next := map[api.Key]uint64{one: 5, two: 0}
	counted := map[api.Key]uint64{}
	for range 3000 {
		a := [4]byte{byte(10 + source.Intn(9)/8), byte(source.Intn(7)), byte(source.Intn(256)), 1}
		b, _ := ipfour.Put(api.Head{Src: at(from), Dst: addr.Four(a)}, make([]byte, source.Intn(40)))
		ok, short := source.Intn(5) > 0, source.Intn(5)/4
		l := outbound.Send(s, x, b, sealed(b)[short:], ok)
		k := owner(a)
		n, sends := next[k]
		switch {
		case !sends:
			if len(l) == 0 || l[len(l)-1].Kind != api.EventDrop {
				t.Fatalf("Send to %v: %v", a, l)
			}
			continue
		case !ok || short > 0:
			tells(t, "not sealed", l, drop(api.ErrSeal))
		default:
			m, fail := data.Parse(l[0].Bytes)
			if len(l) != 1 || l[0].Kind != api.EventSend || l[0].Key != k || fail != api.OK || m.Counter != n || !bytes.Equal(m.Body, sealed(b)) {
				t.Fatalf("Send to %v: %v, %v", a, l, fail)
			}
			counted[k] += uint64(len(l[0].Bytes))
		}
		next[k]++
	}
	for _, k := range s.Keys() {
		if p, _ := s.Peer(k); p.Sent != counted[k] || p.Got != 0 {
			t.Errorf("Peer: %v, not %d", p, counted[k])
		}
	}
}

// R2: what is answered is new, and what is handed in is as it was.
func TestAnew(t *testing.T) {
	s, x := made(t)
	for _, b := range [][]byte{to(t, "10.0.0.1"), to(t, "11.0.0.1")} {
		result := sealed(b)
		keptB, keptResult := slices.Clone(b), slices.Clone(result)
		l := outbound.Send(s, x, b, result, true)
		told := slices.Clone(l[0].Bytes)
		clear(b)
		clear(result)
		if !bytes.Equal(l[0].Bytes, told) {
			t.Error("an event shares memory with what was handed in")
		}
		b, result = slices.Clone(keptB), slices.Clone(keptResult)
		l = outbound.Send(s, x, b, result, true)
		clear(l[0].Bytes)
		if !bytes.Equal(b, keptB) || !bytes.Equal(result, keptResult) {
			t.Error("what was handed in is changed")
		}
	}
}

// P1: of nil, and of zero ones, there is no way.
func TestNil(t *testing.T) {
	full, with := made(t)
	b := to(t, "10.0.0.1")
	m, _ := refuse.Answer(b)
	refused := api.Event{Kind: api.EventRefuse, Bytes: m}
	for _, s := range []*state.State{nil, {}, state.New()} {
		for _, x := range []*sessions.Table{nil, {}, sessions.New(), with} {
			routes(t, "no state", s, x, b, api.Key{}, api.ErrRoute)
			tells(t, "no state", outbound.Send(s, x, b, sealed(b), true), refused, drop(api.ErrRoute))
			tells(t, "nothing", outbound.Send(s, x, nil, nil, false), drop(api.ErrShort))
		}
	}
	for _, x := range []*sessions.Table{nil, {}, sessions.New()} {
		routes(t, "no sessions", full, x, b, api.Key{}, api.ErrAway)
		tells(t, "no sessions", outbound.Send(full, x, b, sealed(b), true), refused, drop(api.ErrAway))
	}
}

// P1: whatever the bytes are, there is just one event, or a refusal ahead of a drop.
func TestWild(t *testing.T) {
	source := rand.New(rand.NewSource(1))
	s, x := made(t)
	for range 10000 {
		b := put(t, api.Head{Proto: source.Intn(99)}, from, []string{"10.0.0.1", "10.1.0.1", "10.4.0.1", "11.0.0.1"}[source.Intn(4)], source.Intn(30))
		for range source.Intn(3) {
			b[source.Intn(len(b))] ^= 1 << source.Intn(8)
		}
		result := make([]byte, source.Intn(80))
		k, fail := outbound.Route(s, x, b)
		l := outbound.Send(s, x, b, result, source.Intn(2) == 0)
		last := l[len(l)-1]
		if len(l) == 2 && (l[0].Kind != api.EventRefuse || fail != api.ErrRoute && fail != api.ErrAway) || len(l) > 2 {
			t.Fatalf("Send(%v): %v", b, l)
		}
		if fail != api.OK && (k != api.Key{} || last.Kind != api.EventDrop || last.Why != fail) || fail == api.OK && last.Kind == api.EventDrop && last.Why != api.ErrSeal {
			t.Fatalf("Send(%v): %v, %v", b, l, fail)
		}
	}
}

// The chapter's example.
func TestExample(t *testing.T) {
	tells(t, "no bytes", outbound.Send(state.New(), sessions.New(), nil, nil, true), drop(api.ErrShort))
}
