package state_test

import (
	"math"
	"math/rand"
	"reflect"
	"slices"
	"testing"

	"crawlway/addr"
	"crawlway/api"
	"crawlway/cidr"
	"crawlway/state"
)

var one, two, three = api.Key{1}, api.Key{31: 1}, api.Key{3, 31: 3}

// of is the prefix of a text.
func of(t *testing.T, s string) api.Prefix {
	t.Helper()
	p, fail := cidr.Parse(s)
	if fail != api.OK {
		t.Fatalf("Parse(%s): %v", s, fail)
	}
	return p
}

// list are the prefixes of texts.
func list(t *testing.T, texts ...string) []api.Prefix {
	t.Helper()
	var l []api.Prefix
	for _, s := range texts {
		l = append(l, of(t, s))
	}
	return l
}

// at is an endpoint.
func at(n int) api.Endpoint {
	return api.Endpoint{A: addr.Four([4]byte{192, 0, 2, byte(n)}), Port: n + 1}
}

// nth is one of many prefixes, of both families by turns.
func nth(i int) api.Prefix {
	if i%2 == 0 {
		return cidr.Whole(addr.Four([4]byte{10, 0, 0, byte(i)}))
	}
	return cidr.Whole(addr.Six([16]byte{10, 15: byte(i)}))
}

// many are so many of them.
func many(from, to int) []api.Prefix {
	var l []api.Prefix
	for i := from; i < to; i++ {
		l = append(l, nth(i))
	}
	return l
}

// newcomers are changes by which so many peers come.
func newcomers(from, to int) []api.PeerChange {
	var l []api.PeerChange
	for i := from; i < to; i++ {
		l = append(l, api.PeerChange{Key: api.Key{9, byte(i)}})
	}
	return l
}

// applies asks for changes of peers, and how that went.
func applies(t *testing.T, s *state.State, want api.Errno, l ...api.PeerChange) {
	t.Helper()
	asks(t, s, want, api.Request{Peers: l})
}

// asks asks for a change, and how that went.
func asks(t *testing.T, s *state.State, want api.Errno, r api.Request) {
	t.Helper()
	if fail := s.Apply(r); fail != want {
		t.Errorf("Apply: %v, not %v", fail, want)
	}
}

// keys asks for all keys, in order.
func keys(t *testing.T, s *state.State, want ...api.Key) {
	t.Helper()
	if got := s.Keys(); !slices.Equal(got, want) {
		t.Errorf("Keys: %v, not %v", got, want)
	}
}

// shows asks for a peer.
func shows(t *testing.T, s *state.State, want api.Peer) {
	t.Helper()
	got, is := s.Peer(want.Key)
	same := slices.Equal(got.Allowed, want.Allowed)
	got.Allowed, want.Allowed = nil, nil
	if !is || !same || !reflect.DeepEqual(got, want) {
		t.Errorf("Peer(%v): %v, %t, not %v", want.Key, got, is, want)
	}
}

// lacks asks for a peer that is not there.
func lacks(t *testing.T, s *state.State, k api.Key) {
	t.Helper()
	if p, is := s.Peer(k); is || !reflect.DeepEqual(p, api.Peer{}) {
		t.Errorf("Peer(%v): %v, %t", k, p, is)
	}
	if id, is := s.Id(k); is || id != 0 {
		t.Errorf("Id(%v): %d, %t", k, id, is)
	}
	if s.Seen(k, at(1)) || s.Count(k, 1, 1) || s.Count(k, 0, 0) {
		t.Errorf("%v is there", k)
	}
}

// owns asks whose an address is; of the zero key it is nobody's.
func owns(t *testing.T, s *state.State, text string, want api.Key) {
	t.Helper()
	a, _ := addr.Parse(text)
	if k, is := s.Owner(a); k != want || is != (want != api.Key{}) {
		t.Errorf("Owner(%s): %v, %t, not %v", text, k, is, want)
	}
}

// all is what a state tells, of so many keys, too.
func all(s *state.State) []any {
	k, port, mark := s.Device()
	l := []any{k, port, mark}
	for _, k := range s.Keys() {
		p, is := s.Peer(k)
		id, _ := s.Id(k)
		l = append(l, p, is, id)
	}
	for i := range 80 {
		k, is := s.Owner(nth(i).A)
		l = append(l, k, is)
	}
	return l
}

// device asks for what there is of the device itself.
func device(t *testing.T, s *state.State, k api.Key, port int, mark uint32) {
	t.Helper()
	if a, b, c := s.Device(); a != k || b != port || c != mark {
		t.Errorf("Device: %v, %d, %d", a, b, c)
	}
}

// P33.1, P33.2: what is said is so, what is not stays.
func TestDevice(t *testing.T) {
	s := state.New()
	device(t, s, api.Key{}, 0, 0)
	keys(t, s)
	lacks(t, s, one)
	lacks(t, s, api.Key{})
	asks(t, s, api.OK, api.Request{HasPrivate: true, Private: one})
	device(t, s, one, 0, 0)
	asks(t, s, api.OK, api.Request{HasPort: true, Port: 65535})
	device(t, s, one, 65535, 0)
	asks(t, s, api.OK, api.Request{HasMark: true, Mark: math.MaxUint32})
	device(t, s, one, 65535, math.MaxUint32)
	asks(t, s, api.OK, api.Request{})
	asks(t, s, api.OK, api.Request{Replace: true})
	device(t, s, one, 65535, math.MaxUint32)
	asks(t, s, api.OK, api.Request{HasPrivate: true, HasPort: true, HasMark: true})
	device(t, s, api.Key{}, 0, 0)
}

// P33.1, P33.2: a peer comes behind all others, and is what is said of it.
func TestPeers(t *testing.T) {
	s := state.New()
	applies(t, s, api.OK, api.PeerChange{Key: two, HasPsk: true, Psk: one, HasEnd: true, End: at(1), HasKeep: true, Keep: 65535, Replace: true, Allowed: list(t, "::/0", "10.0.0.0/8")})
	applies(t, s, api.OK, api.PeerChange{Key: one}, api.PeerChange{Key: three})
	keys(t, s, two, one, three)
	was := api.Peer{Key: two, Psk: one, End: at(1), Keep: 65535, Allowed: list(t, "10.0.0.0/8", "::/0")}
	shows(t, s, was)
	shows(t, s, api.Peer{Key: one})
	applies(t, s, api.OK, api.PeerChange{Key: two})
	shows(t, s, was)
	applies(t, s, api.OK, api.PeerChange{Key: two, HasPsk: true})
	was.Psk = api.Key{}
	shows(t, s, was)
	applies(t, s, api.OK, api.PeerChange{Key: two, HasKeep: true})
	was.Keep = 0
	shows(t, s, was)
	applies(t, s, api.OK, api.PeerChange{Key: two, HasEnd: true, End: at(2)})
	was.End = at(2)
	shows(t, s, was)
	keys(t, s, two, one, three)
	for i, k := range s.Keys() {
		if id, is := s.Id(k); id != i+1 || !is {
			t.Errorf("Id, %d: %d, %t", i, id, is)
		}
	}
}

// P33.1: what was counted stays, whatever else is said of a peer that stays.
func TestCountStays(t *testing.T) {
	s := state.New()
	applies(t, s, api.OK, api.PeerChange{Key: one})
	s.Count(one, 4, 5)
	applies(t, s, api.OK, api.PeerChange{Key: one, Replace: true, HasPsk: true, Psk: two, HasKeep: true, Keep: 1})
	shows(t, s, api.Peer{Key: one, Psk: two, Keep: 1, Sent: 4, Got: 5})
	applies(t, s, api.OK, api.PeerChange{Key: one, Remove: true}, api.PeerChange{Key: one})
	shows(t, s, api.Peer{Key: one})
	s.Count(one, 6, 7)
	asks(t, s, api.OK, api.Request{Replace: true, Peers: []api.PeerChange{{Key: one}}})
	shows(t, s, api.Peer{Key: one})
}

// P33.1: with Remove a peer goes, and all that it owns, and nothing else is done.
func TestRemove(t *testing.T) {
	s := state.New()
	applies(t, s, api.OK, api.PeerChange{Key: one, Allowed: list(t, "10.0.0.0/8")}, api.PeerChange{Key: two, Allowed: list(t, "::/0")})
	applies(t, s, api.OK, api.PeerChange{Key: one, Remove: true, Update: true, Replace: true, HasKeep: true, Keep: 3, Allowed: list(t, "::/0", "11.0.0.0/8")})
	keys(t, s, two)
	lacks(t, s, one)
	owns(t, s, "10.1.1.1", api.Key{})
	owns(t, s, "11.1.1.1", api.Key{})
	owns(t, s, "::1", two)
	applies(t, s, api.OK, api.PeerChange{Key: three, Remove: true, Allowed: list(t, "::/0")})
	keys(t, s, two)
	owns(t, s, "::1", two)
	applies(t, s, api.OK, api.PeerChange{Key: one})
	shows(t, s, api.Peer{Key: one})
	keys(t, s, two, one)
}

// P33.1: with Update no peer comes, and one that is there is changed.
func TestUpdate(t *testing.T) {
	s := state.New()
	applies(t, s, api.OK, api.PeerChange{Key: two, Allowed: list(t, "::/0")})
	applies(t, s, api.OK, api.PeerChange{Key: one, Update: true, HasKeep: true, Keep: 3, Allowed: list(t, "::/0")})
	keys(t, s, two)
	lacks(t, s, one)
	owns(t, s, "::1", two)
	applies(t, s, api.OK, api.PeerChange{Key: two, Update: true, HasKeep: true, Keep: 3, Replace: true, Allowed: list(t, "1.0.0.0/8")})
	shows(t, s, api.Peer{Key: two, Keep: 3, Allowed: list(t, "1.0.0.0/8")})
	applies(t, s, api.OK, api.PeerChange{Key: one, Update: true}, api.PeerChange{Key: one}, api.PeerChange{Key: one, Update: true, HasKeep: true, Keep: 4})
	shows(t, s, api.Peer{Key: one, Keep: 4})
	if id, _ := s.Id(one); id != 2 {
		t.Errorf("Id: %d", id)
	}
}

// P33.1: with Replace all that a peer owns goes ahead of what comes; without it stays.
func TestReplace(t *testing.T) {
	s := state.New()
	applies(t, s, api.OK, api.PeerChange{Key: one, Allowed: list(t, "10.0.0.0/8", "::/0")}, api.PeerChange{Key: two, Allowed: list(t, "1.1.1.1")})
	applies(t, s, api.OK, api.PeerChange{Key: one, Allowed: list(t, "9.0.0.0/8", "10.0.0.0/8")})
	shows(t, s, api.Peer{Key: one, Allowed: list(t, "9.0.0.0/8", "10.0.0.0/8", "::/0")})
	applies(t, s, api.OK, api.PeerChange{Key: one, Replace: true, Allowed: list(t, "10.0.0.0/8", "8.0.0.0/8")})
	shows(t, s, api.Peer{Key: one, Allowed: list(t, "8.0.0.0/8", "10.0.0.0/8")})
	applies(t, s, api.OK, api.PeerChange{Key: one, Replace: true})
	shows(t, s, api.Peer{Key: one})
	shows(t, s, api.Peer{Key: two, Allowed: list(t, "1.1.1.1")})
	owns(t, s, "10.0.0.1", api.Key{})
}

// P33.1: a prefix is the last one's who asks for it.
func TestHands(t *testing.T) {
	s := state.New()
	applies(t, s, api.OK,
		api.PeerChange{Key: one, Allowed: list(t, "10.0.0.0/8", "::/0", "10.0.0.0/8")},
		api.PeerChange{Key: two, Allowed: list(t, "::/0", "::/1")},
		api.PeerChange{Key: one, Allowed: list(t, "::/1")})
	shows(t, s, api.Peer{Key: one, Allowed: list(t, "10.0.0.0/8", "::/1")})
	shows(t, s, api.Peer{Key: two, Allowed: list(t, "::/0")})
}

// P33.1, P33.2: with a request's Replace all peers go, and have other numbers when they come again.
func TestReplaceAll(t *testing.T) {
	s := state.New()
	asks(t, s, api.OK, api.Request{HasPort: true, Port: 4, Peers: []api.PeerChange{{Key: one, HasKeep: true, Keep: 4, Allowed: list(t, "::/0")}, {Key: two}}})
	asks(t, s, api.OK, api.Request{Replace: true, Peers: []api.PeerChange{{Key: two}, {Key: three, Update: true}, {Key: one}}})
	keys(t, s, two, one)
	shows(t, s, api.Peer{Key: one})
	lacks(t, s, three)
	owns(t, s, "::1", api.Key{})
	device(t, s, api.Key{}, 4, 0)
	if id, _ := s.Id(two); id <= 2 {
		t.Errorf("Id: %d", id)
	}
	asks(t, s, api.OK, api.Request{Replace: true})
	keys(t, s)
	lacks(t, s, one)
}

// P33.2: a number is no other peer's, and none's that comes later.
func TestId(t *testing.T) {
	s := state.New()
	given := map[int]api.Key{}
	fresh := func(k api.Key) {
		t.Helper()
		id, is := s.Id(k)
		if _, was := given[id]; !is || was || id == 0 {
			t.Errorf("Id(%v): %d, %t, of %v", k, id, is, given[id])
		}
		given[id] = k
	}
	for range 5 {
		applies(t, s, api.OK, api.PeerChange{Key: one, Remove: true}, api.PeerChange{Key: one})
		fresh(one)
		was, _ := s.Id(one)
		applies(t, s, api.OK, api.PeerChange{Key: two, Remove: true}, api.PeerChange{Key: two})
		fresh(two)
		if id, _ := s.Id(one); id != was {
			t.Errorf("Id of one that stayed: %d, not %d", id, was)
		}
		asks(t, s, api.OK, api.Request{Replace: true, Peers: []api.PeerChange{{Key: one}, {Key: two}}})
		fresh(one)
		fresh(two)
	}
}

// some is a state with all that a state can have.
func some(t *testing.T) *state.State {
	t.Helper()
	s := state.New()
	asks(t, s, api.OK, api.Request{HasPrivate: true, Private: two, HasPort: true, Port: 4, HasMark: true, Mark: 5, Peers: []api.PeerChange{
		{Key: one, HasPsk: true, Psk: two, HasEnd: true, End: at(1), HasKeep: true, Keep: 3, Allowed: many(0, 6)}, {Key: two, Allowed: many(6, 9)},
	}})
	s.Count(one, 1, 2)
	return s
}

// P33.1, R4: what is not right changes nothing, and is told ahead of what has no room.
func TestWrong(t *testing.T) {
	s := some(t)
	was := all(s)
	for _, r := range []api.Request{
		{Private: one}, {HasPort: true, Port: 65536}, {HasPort: true, Port: -1}, {Port: 1}, {Mark: 1}, {HasPort: true, Port: 9, Replace: true, Peers: []api.PeerChange{{}}},
		{Peers: []api.PeerChange{{Key: three}, {Key: one, Keep: 1}}}, {Peers: []api.PeerChange{{Key: one, Remove: true}, {Key: one, HasEnd: true}}},
		{Peers: append(newcomers(0, 17), api.PeerChange{Psk: one})}, {Peers: newcomers(0, 65)}, {Peers: []api.PeerChange{{Key: one, Allowed: []api.Prefix{{}}}}},
		{Peers: []api.PeerChange{{Key: one, Remove: true, Psk: one}}}, {Peers: []api.PeerChange{{Key: two, Allowed: many(0, 65)}}},
	} {
		asks(t, s, api.ErrArg, r)
	}
	if got := all(s); !reflect.DeepEqual(got, was) {
		t.Errorf("changed: %v, not %v", got, was)
	}
}

// P33.1, R4: 16 peers, and no more; where there is no room, nothing has changed, nor been numbered.
func TestFullPeers(t *testing.T) {
	s := some(t)
	was := all(s)
	r := api.Request{HasPrivate: true, Private: one, HasPort: true, Port: 9, HasMark: true, Mark: 9, Peers: []api.PeerChange{{Key: two, Remove: true}, {Key: one, Replace: true, HasKeep: true, Keep: 9, Allowed: many(6, 7)}}}
	r.Peers = append(r.Peers, newcomers(0, 16)...)
	asks(t, s, api.ErrFull, r)
	if got := all(s); !reflect.DeepEqual(got, was) {
		t.Errorf("changed: %v, not %v", got, was)
	}
	asks(t, s, api.ErrFull, api.Request{Replace: true, Peers: newcomers(0, 17)})
	if got := all(s); !reflect.DeepEqual(got, was) {
		t.Errorf("changed: %v, not %v", got, was)
	}
	applies(t, s, api.OK, newcomers(0, 14)...)
	if id, _ := s.Id(api.Key{9, 0}); id != 3 || len(s.Keys()) != api.MaxPeers {
		t.Errorf("Id: %d, Keys: %d", id, len(s.Keys()))
	}
	applies(t, s, api.ErrFull, newcomers(14, 15)...)
	applies(t, s, api.OK, newcomers(0, 14)...)
	applies(t, s, api.OK, api.PeerChange{Key: api.Key{8}, Update: true}, api.PeerChange{Key: api.Key{8}, Remove: true})
	applies(t, s, api.ErrFull, api.PeerChange{Key: api.Key{8}}, api.PeerChange{Key: one, Remove: true})
	applies(t, s, api.OK, api.PeerChange{Key: one, Remove: true}, api.PeerChange{Key: api.Key{8}})
	if l := s.Keys(); len(l) != 16 || l[15] != (api.Key{8}) {
		t.Errorf("Keys: %v", l)
	}
	asks(t, s, api.OK, api.Request{Replace: true, Peers: newcomers(20, 36)})
	if len(s.Keys()) != 16 {
		t.Errorf("Keys: %v", s.Keys())
	}
}

// P33.1, R4: 64 prefixes, and no more, of all peers together.
func TestFullPrefixes(t *testing.T) {
	s := some(t)
	applies(t, s, api.OK, api.PeerChange{Key: two, Allowed: many(6, 64)})
	was := all(s)
	for _, r := range []api.Request{
		{HasPort: true, Port: 9, Peers: []api.PeerChange{{Key: three, Allowed: many(64, 65)}}},
		{Peers: []api.PeerChange{{Key: one, Allowed: many(60, 65)}}},
		{Peers: []api.PeerChange{{Key: one, HasKeep: true, Keep: 9, Allowed: many(64, 65)}, {Key: two, Remove: true}}},
		{Replace: true, Peers: []api.PeerChange{{Key: one, Allowed: many(0, 64)}, {Key: two, Allowed: many(64, 65)}}},
	} {
		asks(t, s, api.ErrFull, r)
		if got := all(s); !reflect.DeepEqual(got, was) {
			t.Errorf("changed: %v, not %v", got, was)
		}
	}
	applies(t, s, api.OK, api.PeerChange{Key: one, Allowed: many(0, 64)})
	if p, _ := s.Peer(one); len(p.Allowed) != 64 {
		t.Errorf("Allowed: %d", len(p.Allowed))
	}
	applies(t, s, api.OK, api.PeerChange{Key: one, Replace: true, Allowed: many(64, 128)})
	applies(t, s, api.OK, api.PeerChange{Key: one, Remove: true}, api.PeerChange{Key: two, Allowed: many(0, 64)})
	if p, _ := s.Peer(two); len(p.Allowed) != 64 {
		t.Errorf("Allowed: %d", len(p.Allowed))
	}
}

// P33.3: who owns the longest prefix, of the address's own family.
func TestOwner(t *testing.T) {
	s := state.New()
	owns(t, s, "10.1.2.3", api.Key{})
	applies(t, s, api.OK,
		api.PeerChange{Key: one, Allowed: list(t, "10.0.0.0/8", "10.1.2.3")},
		api.PeerChange{Key: two, Allowed: list(t, "10.1.0.0/16", "a00::/8")})
	owns(t, s, "10.2.0.1", one)
	owns(t, s, "10.1.0.1", two)
	owns(t, s, "10.1.2.3", one)
	owns(t, s, "11.0.0.0", api.Key{})
	owns(t, s, "a01:203::", two)
	owns(t, s, "b01::", api.Key{})
	for _, a := range []api.Addr{{}, {V: 5}, {V: -4}, {V: math.MaxInt}, {V: 4, B: [16]byte{10, 4: 1}}} {
		if k, is := s.Owner(a); k != (api.Key{}) || is {
			t.Errorf("Owner(%v): %v, %t", a, k, is)
		}
	}
	applies(t, s, api.OK, api.PeerChange{Key: one, Remove: true})
	owns(t, s, "10.1.2.3", two)
	owns(t, s, "10.2.0.1", api.Key{})
}

// P33.4: only a right endpoint is seen, and it counts till another one does.
func TestSeen(t *testing.T) {
	s := state.New()
	applies(t, s, api.OK, api.PeerChange{Key: one, HasEnd: true, End: at(1)}, api.PeerChange{Key: two})
	lacks(t, s, three)
	for _, e := range []api.Endpoint{{}, {A: at(1).A}, {Port: 5}, {A: at(1).A, Port: 65536}, {A: at(1).A, Port: -1}, {A: api.Addr{V: 4, B: [16]byte{4: 1}}, Port: 1}} {
		if s.Seen(one, e) || s.Seen(two, e) || s.Seen(three, e) {
			t.Errorf("Seen(%v)", e)
		}
	}
	shows(t, s, api.Peer{Key: one, End: at(1)})
	shows(t, s, api.Peer{Key: two})
	six := api.Endpoint{A: api.Addr{V: 6}, Port: 65535}
	if !s.Seen(two, six) || !s.Seen(one, at(2)) || !s.Seen(one, at(2)) {
		t.Error("Seen: false")
	}
	shows(t, s, api.Peer{Key: one, End: at(2)})
	shows(t, s, api.Peer{Key: two, End: six})
	applies(t, s, api.OK, api.PeerChange{Key: one})
	shows(t, s, api.Peer{Key: one, End: at(2)})
	applies(t, s, api.OK, api.PeerChange{Key: one, HasEnd: true, End: at(3)})
	shows(t, s, api.Peer{Key: one, End: at(3)})
}

// P33.4: sums of one peer, which stay at their greatest.
func TestCount(t *testing.T) {
	s := state.New()
	applies(t, s, api.OK, api.PeerChange{Key: one}, api.PeerChange{Key: two})
	lacks(t, s, three)
	for _, n := range []uint64{0, 3, 4} {
		if !s.Count(one, n, 2*n) {
			t.Errorf("Count(%d): false", n)
		}
	}
	shows(t, s, api.Peer{Key: one, Sent: 7, Got: 14})
	shows(t, s, api.Peer{Key: two})
	if !s.Count(one, math.MaxUint64-7, 0) || !s.Count(two, 0, math.MaxUint64) {
		t.Error("Count: false")
	}
	shows(t, s, api.Peer{Key: one, Sent: math.MaxUint64, Got: 14})
	if !s.Count(one, 1, 1) || !s.Count(two, 1, 1) {
		t.Error("Count: false")
	}
	shows(t, s, api.Peer{Key: one, Sent: math.MaxUint64, Got: 15})
	shows(t, s, api.Peer{Key: two, Sent: 1, Got: math.MaxUint64})
}

// R2: what is answered is new, and what is handed in is not kept.
func TestAnew(t *testing.T) {
	s := state.New()
	r := api.Request{Peers: []api.PeerChange{{Key: one, Allowed: many(0, 4)}, {Key: two}}}
	asks(t, s, api.OK, r)
	if !reflect.DeepEqual(r, api.Request{Peers: []api.PeerChange{{Key: one, Allowed: many(0, 4)}, {Key: two}}}) {
		t.Errorf("handed in: %v", r)
	}
	was := all(s)
	r.Peers[0].Allowed[0] = of(t, "1.1.1.1")
	r.Peers[1].Key = three
	p, _ := s.Peer(one)
	p.Allowed[1], p.Keep = api.Prefix{}, 9
	s.Keys()[0] = three
	if got := all(s); !reflect.DeepEqual(got, was) {
		t.Errorf("changed: %v, not %v", got, was)
	}
}

// P1, P33.4: of nil, and of a zero state.
func TestNil(t *testing.T) {
	for _, s := range []*state.State{nil, {}} {
		for _, r := range []api.Request{{}, {Port: 1}, {HasPort: true, Port: 1, Peers: []api.PeerChange{{Key: one, Allowed: many(0, 2)}}}, {Replace: true, Peers: []api.PeerChange{{Key: one, Remove: true}}}} {
			asks(t, s, api.ErrNil, r)
		}
		device(t, s, api.Key{}, 0, 0)
		keys(t, s)
		for _, k := range []api.Key{{}, one} {
			lacks(t, s, k)
		}
		for _, text := range []string{"", "10.0.0.0", "::"} {
			owns(t, s, text, api.Key{})
		}
	}
}

// model is a state as the chapter tells it: peers in order, and who owns what.
type model struct {
	private api.Key
	port    int
	mark    uint32
	peers   []api.Peer
	owners  map[api.Prefix]api.Key
}

// find is where a peer stands, below 0 nowhere.
func (m *model) find(k api.Key) int {
	return slices.IndexFunc(m.peers, func(p api.Peer) bool { return p.Key == k })
}

// drop lets a peer own nothing.
func (m *model) drop(k api.Key) {
	for p, who := range m.owners {
		if who == k {
			delete(m.owners, p)
		}
	}
}

// change does a peer's change; false, if there is no room.
func (m *model) change(c api.PeerChange) bool {
	i := m.find(c.Key)
	switch {
	case c.Remove:
		if i >= 0 {
			m.peers = slices.Delete(m.peers, i, i+1)
			m.drop(c.Key)
		}
		return true
	case i < 0 && c.Update:
		return true
	case i < 0 && len(m.peers) == 16:
		return false
	case i < 0:
		i = len(m.peers)
		m.peers = append(m.peers, api.Peer{Key: c.Key})
	}
	p := &m.peers[i]
	if c.HasPsk {
		p.Psk = c.Psk
	}
	if c.HasEnd {
		p.End = c.End
	}
	if c.HasKeep {
		p.Keep = c.Keep
	}
	if c.Replace {
		m.drop(c.Key)
	}
	for _, q := range c.Allowed {
		m.owners[q] = c.Key
	}
	return len(m.owners) <= 64
}

// apply is the state that is there then, and whether there was room.
func (m model) apply(r api.Request) (model, bool) {
	was := m
	m.peers, m.owners = slices.Clone(m.peers), map[api.Prefix]api.Key{}
	for p, k := range was.owners {
		m.owners[p] = k
	}
	if r.HasPrivate {
		m.private = r.Private
	}
	if r.HasPort {
		m.port = r.Port
	}
	if r.HasMark {
		m.mark = r.Mark
	}
	if r.Replace {
		m.peers = nil
		clear(m.owners)
	}
	for _, c := range r.Peers {
		if !m.change(c) {
			return was, false
		}
	}
	return m, true
}

// request is any right one.
func request(source *rand.Rand) api.Request {
	often := func() bool { return source.Intn(3) == 0 }
	seldom := func() bool { return source.Intn(8) == 0 }
	r := api.Request{HasPrivate: often(), HasPort: often(), HasMark: often(), Replace: source.Intn(30) == 0}
	if r.HasPrivate {
		r.Private = api.Key{byte(source.Intn(9))}
	}
	if r.HasPort {
		r.Port = source.Intn(65536)
	}
	if r.HasMark {
		r.Mark = source.Uint32()
	}
	for range source.Intn(6) {
		c := api.PeerChange{Key: api.Key{1, byte(source.Intn(24))}, Remove: seldom(), Update: seldom(), HasPsk: often(), HasEnd: often(), HasKeep: often(), Replace: seldom()}
		if c.HasPsk {
			c.Psk = api.Key{byte(source.Intn(9))}
		}
		if c.HasEnd {
			c.End = at(source.Intn(9))
		}
		if c.HasKeep {
			c.Keep = source.Intn(65536)
		}
		for range source.Intn(14) {
			c.Allowed = append(c.Allowed, nth(source.Intn(110)))
		}
		r.Peers = append(r.Peers, c)
	}
	return r
}

// P33.1 to P33.4: whatever is asked for, it is as a plain list tells it.
func TestModel(t *testing.T) {
	source := rand.New(rand.NewSource(33))
	failed := 0
	for range 12 {
		s, m := state.New(), model{}
		for range 120 {
			r := request(source)
			next, room := m.apply(r)
			m = next
			if fail := s.Apply(r); (fail == api.OK) != room || !room && fail != api.ErrFull {
				t.Fatalf("Apply: %v, %t", fail, room)
			} else if !room {
				failed++
			}
			k, n := api.Key{1, byte(source.Intn(24))}, uint64(source.Intn(1000))
			i := m.find(k)
			if i >= 0 {
				m.peers[i].End = at(5)
				m.peers[i].Sent += n
				m.peers[i].Got += 2 * n
			}
			if s.Seen(k, at(5)) != (i >= 0) || s.Count(k, n, 2*n) != (i >= 0) {
				t.Fatalf("Seen, Count: %d", i)
			}
			agrees(t, s, m)
		}
	}
	if failed == 0 {
		t.Error("no request was without room")
	}
}

// agrees holds a state against a model.
func agrees(t *testing.T, s *state.State, m model) {
	t.Helper()
	device(t, s, m.private, m.port, m.mark)
	var all []api.Key
	for _, p := range m.peers {
		all = append(all, p.Key)
		for q, who := range m.owners {
			if who == p.Key {
				p.Allowed = append(p.Allowed, q)
			}
		}
		slices.SortFunc(p.Allowed, func(a, b api.Prefix) int {
			if cidr.Less(a, b) {
				return -1
			}
			return 1
		})
		shows(t, s, p)
	}
	keys(t, s, all...)
	for i := range 110 {
		who, is := m.owners[nth(i)]
		if k, found := s.Owner(nth(i).A); k != who || found != is {
			t.Errorf("Owner: %v, %t, not %v", k, found, who)
		}
	}
	if t.Failed() {
		t.FailNow()
	}
}

// The chapter's example.
func TestExample(t *testing.T) {
	s := state.New()
	asks(t, s, api.ErrFull, api.Request{Peers: newcomers(0, 17)})
	keys(t, s)
	lacks(t, s, api.Key{9, 0})
}
