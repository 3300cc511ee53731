package change_test

import (
	"math"
	"reflect"
	"slices"
	"testing"

	"crawlway/addr"
	"crawlway/api"
	"crawlway/change"
	"crawlway/cidr"
)

var (
	four = addr.Four([4]byte{10, 1, 2, 3})
	six  = addr.Six([16]byte{32, 1, 15: 1})
	low  = cidr.Whole(four)
	high = cidr.Whole(six)
)

// plain is a change of which nothing is said but its key.
func plain() api.PeerChange { return api.PeerChange{Key: api.Key{31: 7}} }

// full is a change of which all is said.
func full() api.PeerChange {
	return api.PeerChange{
		Key: api.Key{1}, Update: true, HasPsk: true, Psk: api.Key{2}, HasEnd: true, End: api.Endpoint{A: four, Port: 9},
		HasKeep: true, Keep: 25, Replace: true, Allowed: []api.Prefix{low, high},
	}
}

// whole is a request of which all is said.
func whole() api.Request {
	gone := full()
	gone.Remove = true
	return api.Request{
		HasPrivate: true, Private: api.Key{3}, HasPort: true, Port: 51820, HasMark: true, Mark: 4, Replace: true,
		Peers: []api.PeerChange{full(), gone, plain()},
	}
}

// many are prefixes, none of which is another one.
func many(n int) []api.Prefix {
	var l []api.Prefix
	for i := range n {
		l = append(l, cidr.Whole(addr.Four([4]byte{10, 0, 0, byte(i)})))
	}
	return l
}

// peerCase is what is done to a change, and whether it is right then.
type peerCase struct {
	name  string
	does  func(p *api.PeerChange)
	right bool
}

// tries does each to one change, anew each time.
func tries(t *testing.T, from func() api.PeerChange, cases []peerCase) {
	t.Helper()
	for _, c := range cases {
		p := from()
		c.does(&p)
		if got := change.RightPeer(p); got != c.right {
			t.Errorf("RightPeer, %s: %t", c.name, got)
		}
		if got := change.Right(api.Request{Peers: []api.PeerChange{plain(), p}}); got != c.right {
			t.Errorf("Right, %s: %t", c.name, got)
		}
	}
}

// P32.1: what is said is right, to its very ends.
func TestRightPeerSaid(t *testing.T) {
	tries(t, full, []peerCase{
		{"all", func(p *api.PeerChange) {}, true},
		{"zero key", func(p *api.PeerChange) { p.Key = api.Key{} }, false},
		{"key of one bit", func(p *api.PeerChange) { p.Key = api.Key{31: 1} }, true},
		{"all three", func(p *api.PeerChange) { p.Remove = true }, true},
		{"zero psk", func(p *api.PeerChange) { p.Psk = api.Key{} }, true},
		{"zero end", func(p *api.PeerChange) { p.End = api.Endpoint{} }, false},
		{"port 0", func(p *api.PeerChange) { p.End.Port = 0 }, false},
		{"port 1", func(p *api.PeerChange) { p.End.Port = 1 }, true},
		{"port 65535", func(p *api.PeerChange) { p.End.Port = 65535 }, true},
		{"port 65536", func(p *api.PeerChange) { p.End.Port = 65536 }, false},
		{"end of no family", func(p *api.PeerChange) { p.End.A.V = 5 }, false},
		{"end with bits behind", func(p *api.PeerChange) { p.End.A.B[4] = 1 }, false},
		{"end of family 6", func(p *api.PeerChange) { p.End.A = six }, true},
		{"keep -1", func(p *api.PeerChange) { p.Keep = -1 }, false},
		{"keep 0", func(p *api.PeerChange) { p.Keep = 0 }, true},
		{"keep 65535", func(p *api.PeerChange) { p.Keep = 65535 }, true},
		{"keep 65536", func(p *api.PeerChange) { p.Keep = 65536 }, false},
		{"least keep", func(p *api.PeerChange) { p.Keep = math.MinInt }, false},
		{"greatest keep", func(p *api.PeerChange) { p.Keep = math.MaxInt }, false},
	})
}

// P32.1: what is not said is zero, also of a peer that goes.
func TestRightPeerUnsaid(t *testing.T) {
	cases := []peerCase{
		{"nothing", func(p *api.PeerChange) {}, true},
		{"psk", func(p *api.PeerChange) { p.Psk[31] = 1 }, false},
		{"end", func(p *api.PeerChange) { p.End = api.Endpoint{A: four, Port: 9} }, false},
		{"family", func(p *api.PeerChange) { p.End.A.V = 4 }, false},
		{"port", func(p *api.PeerChange) { p.End.Port = 1 }, false},
		{"keep", func(p *api.PeerChange) { p.Keep = 1 }, false},
		{"keep below 0", func(p *api.PeerChange) { p.Keep = -1 }, false},
		{"has psk", func(p *api.PeerChange) { p.HasPsk = true }, true},
		{"has end", func(p *api.PeerChange) { p.HasEnd = true }, false},
		{"has keep", func(p *api.PeerChange) { p.HasKeep = true }, true},
		{"update", func(p *api.PeerChange) { p.Update = true }, true},
		{"replace", func(p *api.PeerChange) { p.Replace = true }, true},
		{"zero key", func(p *api.PeerChange) { p.Key = api.Key{} }, false},
	}
	tries(t, plain, cases)
	tries(t, func() api.PeerChange {
		p := plain()
		p.Remove = true
		return p
	}, cases)
}

// P32.1: at most 64 right prefixes, in any order, one of which may stand there several times.
func TestRightPeerAllowed(t *testing.T) {
	put := func(l ...api.Prefix) func(p *api.PeerChange) { return func(p *api.PeerChange) { p.Allowed = l } }
	tries(t, plain, []peerCase{
		{"empty", put([]api.Prefix{}...), true},
		{"both families", put(high, low), true},
		{"one several times", put(low, high, low, low), true},
		{"64", put(many(64)...), true},
		{"65", put(many(65)...), false},
		{"64 times one", put(slices.Repeat([]api.Prefix{low}, 64)...), true},
		{"65 times one", put(slices.Repeat([]api.Prefix{low}, 65)...), false},
		{"zero prefix", put(api.Prefix{}), false},
		{"wrong one in front", put(api.Prefix{A: four, Bits: 8}, low), false},
		{"wrong one behind", put(low, high, api.Prefix{A: six, Bits: 127}), false},
		{"64th one wrong", put(append(many(63), api.Prefix{A: four, Bits: 33})...), false},
		{"Bits below 0", put(api.Prefix{A: api.Addr{V: 4}, Bits: -1}), false},
		{"no bits", put(api.Prefix{A: api.Addr{V: 6}}), true},
	})
}

// P32.1: what a request says of the device itself, and how many peers it has.
func TestRight(t *testing.T) {
	for _, c := range []struct {
		name  string
		r     api.Request
		right bool
	}{
		{"nothing", api.Request{}, true},
		{"all", whole(), true},
		{"no peers", api.Request{Peers: []api.PeerChange{}}, true},
		{"zero private", api.Request{HasPrivate: true}, true},
		{"private unsaid", api.Request{Private: api.Key{31: 1}}, false},
		{"port 0", api.Request{HasPort: true}, true},
		{"port 65535", api.Request{HasPort: true, Port: 65535}, true},
		{"port 65536", api.Request{HasPort: true, Port: 65536}, false},
		{"port -1", api.Request{HasPort: true, Port: -1}, false},
		{"least port", api.Request{HasPort: true, Port: math.MinInt}, false},
		{"greatest port", api.Request{HasPort: true, Port: math.MaxInt}, false},
		{"port unsaid", api.Request{Port: 1}, false},
		{"mark 0", api.Request{HasMark: true}, true},
		{"greatest mark", api.Request{HasMark: true, Mark: math.MaxUint32}, true},
		{"mark unsaid", api.Request{Mark: 1}, false},
		{"replace", api.Request{Replace: true}, true},
		{"64 peers of one key", api.Request{Peers: slices.Repeat([]api.PeerChange{full()}, 64)}, true},
		{"65 peers", api.Request{Peers: slices.Repeat([]api.PeerChange{plain()}, 65)}, false},
		{"wrong peer in front", api.Request{Peers: []api.PeerChange{{}, plain()}}, false},
		{"wrong 64th peer", api.Request{Peers: append(slices.Repeat([]api.PeerChange{plain()}, 63), api.PeerChange{})}, false},
	} {
		if got := change.Right(c.r); got != c.right {
			t.Errorf("Right, %s: %t", c.name, got)
		}
	}
}

// P32.2: of a peer that goes its key is left; all else is as it was, right or not.
func TestNormal(t *testing.T) {
	want := whole()
	want.Peers[1] = api.PeerChange{Key: api.Key{1}, Remove: true}
	if got := change.Normal(whole()); !reflect.DeepEqual(got, want) {
		t.Errorf("Normal: %v", got)
	}
	if got := change.Normal(want); !reflect.DeepEqual(got, want) {
		t.Errorf("Normal, once more: %v", got)
	}
	if got := change.Normal(api.Request{}); !reflect.DeepEqual(got, api.Request{}) {
		t.Errorf("Normal of nothing: %v", got)
	}
	wrong := api.Request{Private: api.Key{1}, Port: -1, Mark: 1, Peers: []api.PeerChange{
		{Psk: api.Key{1}, Keep: -1, Allowed: make([]api.Prefix, 65)}, {Remove: true, Psk: api.Key{1}, Keep: -1, Allowed: make([]api.Prefix, 65)},
	}}
	got := change.Normal(wrong)
	if !reflect.DeepEqual(got.Peers[1], api.PeerChange{Remove: true}) {
		t.Errorf("Normal of a wrong one: %v", got.Peers[1])
	}
	got.Peers[1] = wrong.Peers[1]
	if !reflect.DeepEqual(got, wrong) {
		t.Errorf("Normal of a wrong one: %v", got)
	}
}

// P32.3: each field counts, whether it is said or not.
func TestSame(t *testing.T) {
	others := map[string]func(r *api.Request){
		"has private":    func(r *api.Request) { r.HasPrivate = false },
		"private":        func(r *api.Request) { r.Private[31]++ },
		"has port":       func(r *api.Request) { r.HasPort = false },
		"port":           func(r *api.Request) { r.Port++ },
		"has mark":       func(r *api.Request) { r.HasMark = false },
		"mark":           func(r *api.Request) { r.Mark++ },
		"replace":        func(r *api.Request) { r.Replace = false },
		"fewer peers":    func(r *api.Request) { r.Peers = r.Peers[:2] },
		"more peers":     func(r *api.Request) { r.Peers = append(r.Peers, plain()) },
		"no peers":       func(r *api.Request) { r.Peers = nil },
		"order of peers": func(r *api.Request) { r.Peers[0], r.Peers[2] = r.Peers[2], r.Peers[0] },
		"key":            func(r *api.Request) { r.Peers[1].Key[31]++ },
		"remove":         func(r *api.Request) { r.Peers[1].Remove = false },
		"update":         func(r *api.Request) { r.Peers[1].Update = false },
		"has psk":        func(r *api.Request) { r.Peers[1].HasPsk = false },
		"psk":            func(r *api.Request) { r.Peers[1].Psk[31]++ },
		"has end":        func(r *api.Request) { r.Peers[1].HasEnd = false },
		"end's family":   func(r *api.Request) { r.Peers[1].End.A.V = 6 },
		"end's bits":     func(r *api.Request) { r.Peers[1].End.A.B[15]++ },
		"end's port":     func(r *api.Request) { r.Peers[1].End.Port++ },
		"has keep":       func(r *api.Request) { r.Peers[1].HasKeep = false },
		"keep":           func(r *api.Request) { r.Peers[1].Keep++ },
		"peer's replace": func(r *api.Request) { r.Peers[1].Replace = false },
		"fewer prefixes": func(r *api.Request) { r.Peers[1].Allowed = r.Peers[1].Allowed[:1] },
		"more prefixes":  func(r *api.Request) { r.Peers[1].Allowed = append(r.Peers[1].Allowed, low) },
		"order":          func(r *api.Request) { slices.Reverse(r.Peers[1].Allowed) },
		"prefix":         func(r *api.Request) { r.Peers[1].Allowed[1].Bits-- },
	}
	for name, does := range others {
		r := whole()
		does(&r)
		if change.Same(r, whole()) || change.Same(whole(), r) {
			t.Errorf("Same, %s", name)
		}
		again := whole()
		does(&again)
		if !change.Same(r, again) {
			t.Errorf("not Same, %s", name)
		}
	}
	if !change.Same(whole(), whole()) || !change.Same(api.Request{}, api.Request{}) || change.Same(whole(), api.Request{}) {
		t.Error("Same")
	}
}

// P32.3, R1: a list nil is one without elements.
func TestSameEmpty(t *testing.T) {
	a, b := whole(), whole()
	b.Peers[2].Allowed = []api.Prefix{}
	if !change.Same(a, b) || !change.Same(b, a) {
		t.Error("not Same: no prefixes")
	}
	if !change.Same(api.Request{}, api.Request{Peers: []api.PeerChange{}}) {
		t.Error("not Same: no peers")
	}
}

// R2: what is answered shares nothing with what was handed in, which is not changed.
func TestAnew(t *testing.T) {
	r := whole()
	got := change.Normal(r)
	change.Right(r)
	if !reflect.DeepEqual(r, whole()) {
		t.Errorf("handed in: %v", r)
	}
	for i := range got.Peers {
		for j := range got.Peers[i].Allowed {
			got.Peers[i].Allowed[j] = api.Prefix{}
		}
		got.Peers[i] = api.PeerChange{}
	}
	if !reflect.DeepEqual(r, whole()) {
		t.Errorf("written: %v", r)
	}
}

// The chapter's example.
func TestExample(t *testing.T) {
	if !change.Right(api.Request{}) {
		t.Error("Right of nothing: false")
	}
	if change.Right(api.Request{Peers: []api.PeerChange{{}}}) {
		t.Error("Right of a peer of the zero key: true")
	}
}
