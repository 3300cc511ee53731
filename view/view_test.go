package view_test

import (
	"math"
	"math/rand"
	"reflect"
	"slices"
	"testing"

	"crawlway/addr"
	"crawlway/api"
	"crawlway/change"
	"crawlway/cidr"
	"crawlway/state"
	"crawlway/view"
)

var (
	one, two, three = api.Key{1}, api.Key{31: 1}, api.Key{3, 31: 3}
	four            = api.Endpoint{A: addr.Four([4]byte{192, 0, 2, 1}), Port: 9}
	six             = api.Endpoint{A: addr.Six([16]byte{32, 1, 15: 1}), Port: 65535}
)

// list are the prefixes of texts.
func list(texts ...string) []api.Prefix {
	var l []api.Prefix
	for _, s := range texts {
		p, _ := cidr.Parse(s)
		l = append(l, p)
	}
	return l
}

// many are so many prefixes, in order.
func many(from, to int) []api.Prefix {
	var l []api.Prefix
	for i := from; i < to; i++ {
		l = append(l, cidr.Whole(addr.Four([4]byte{10, 0, 0, byte(i)})))
	}
	return l
}

// whole is a configuration that has all that one can have.
func whole() api.Conf {
	return api.Conf{Private: three, Port: 51820, Mark: 7, Peers: []api.Peer{
		{Key: two, Psk: three, End: four, Keep: 25, Sent: 5, Got: 6, Allowed: list("10.0.0.0/8", "10.0.0.0/9", "::/0")},
		{Key: one},
		{Key: three, End: six, Got: math.MaxUint64, Allowed: list("0.0.0.0/0")},
	}}
}

// peers are so many peers, of which nothing is said but their keys.
func peers(n int) []api.Peer {
	var l []api.Peer
	for i := range n {
		l = append(l, api.Peer{Key: api.Key{9, byte(i)}})
	}
	return l
}

// P34.1: what there is, as it is there.
func TestOf(t *testing.T) {
	s := state.New()
	zero := view.Of(s)
	if !reflect.DeepEqual(zero, api.Conf{}) {
		t.Errorf("Of a new state: %v", zero)
	}
	s.Apply(api.Request{HasPrivate: true, Private: three, HasPort: true, Port: 51820, HasMark: true, Mark: 7, Peers: []api.PeerChange{
		{Key: two, HasPsk: true, Psk: three, HasEnd: true, End: four, HasKeep: true, Keep: 25, Allowed: list("::/0", "10.0.0.0/9", "10.0.0.0/8", "10.0.0.0/9")},
		{Key: one}, {Key: three, Allowed: list("0.0.0.0/0")},
	}})
	s.Count(two, 5, 6)
	s.Count(three, 0, math.MaxUint64)
	s.Seen(three, six)
	if got := view.Of(s); !view.Same(got, whole()) || !view.Right(got) {
		t.Errorf("Of: %v, not %v", got, whole())
	}
	s.Apply(api.Request{Peers: []api.PeerChange{{Key: two, Remove: true}, {Key: two}}})
	if got := view.Of(s); len(got.Peers) != 3 || got.Peers[2].Key != two || got.Peers[2].Keep != 0 || got.Peers[0].Key != one {
		t.Errorf("Of: %v", got)
	}
}

// P34.1, P1: of nil, and of a zero state.
func TestOfNil(t *testing.T) {
	for _, s := range []*state.State{nil, {}} {
		if got := view.Of(s); !reflect.DeepEqual(got, api.Conf{}) {
			t.Errorf("Of: %v", got)
		}
	}
}

// P34.2: each part of it, to its very ends.
func TestRight(t *testing.T) {
	for _, c := range []struct {
		name  string
		does  func(c *api.Conf)
		right bool
	}{
		{"all", func(c *api.Conf) {}, true},
		{"nothing", func(c *api.Conf) { *c = api.Conf{} }, true},
		{"no peers", func(c *api.Conf) { c.Peers = []api.Peer{} }, true},
		{"zero private", func(c *api.Conf) { c.Private = api.Key{} }, true},
		{"port 0", func(c *api.Conf) { c.Port = 0 }, true},
		{"port -1", func(c *api.Conf) { c.Port = -1 }, false},
		{"port 65535", func(c *api.Conf) { c.Port = 65535 }, true},
		{"port 65536", func(c *api.Conf) { c.Port = 65536 }, false},
		{"least port", func(c *api.Conf) { c.Port = math.MinInt }, false},
		{"greatest mark", func(c *api.Conf) { c.Mark = math.MaxUint32 }, true},
		{"16 peers", func(c *api.Conf) { c.Peers = append(c.Peers, peers(13)...) }, true},
		{"17 peers", func(c *api.Conf) { c.Peers = append(c.Peers, peers(14)...) }, false},
		{"zero key", func(c *api.Conf) { c.Peers[1].Key = api.Key{} }, false},
		{"private key as a peer's", func(c *api.Conf) { c.Private = one }, true},
		{"key twice in a row", func(c *api.Conf) { c.Peers[1].Key = two }, false},
		{"key twice", func(c *api.Conf) { c.Peers[2].Key = two }, false},
		{"zero psk", func(c *api.Conf) { c.Peers[0].Psk = api.Key{} }, true},
		{"zero end", func(c *api.Conf) { c.Peers[0].End = api.Endpoint{} }, true},
		{"end without port", func(c *api.Conf) { c.Peers[0].End.Port = 0 }, false},
		{"end of port 65536", func(c *api.Conf) { c.Peers[0].End.Port = 65536 }, false},
		{"end of a port alone", func(c *api.Conf) { c.Peers[1].End.Port = 1 }, false},
		{"end of a family alone", func(c *api.Conf) { c.Peers[1].End.A.V = 4 }, false},
		{"end with bits behind", func(c *api.Conf) { c.Peers[0].End.A.B[15] = 1 }, false},
		{"the same end twice", func(c *api.Conf) { c.Peers[2].End = four }, true},
		{"keep -1", func(c *api.Conf) { c.Peers[2].Keep = -1 }, false},
		{"keep 65535", func(c *api.Conf) { c.Peers[2].Keep = 65535 }, true},
		{"keep 65536", func(c *api.Conf) { c.Peers[2].Keep = 65536 }, false},
		{"greatest keep", func(c *api.Conf) { c.Peers[0].Keep = math.MaxInt }, false},
		{"greatest sums", func(c *api.Conf) { c.Peers[0].Sent, c.Peers[0].Got = math.MaxUint64, math.MaxUint64 }, true},
		{"no prefixes", func(c *api.Conf) { c.Peers[0].Allowed = []api.Prefix{} }, true},
		{"zero prefix", func(c *api.Conf) { c.Peers[1].Allowed = []api.Prefix{{}} }, false},
		{"wrong prefix", func(c *api.Conf) { c.Peers[1].Allowed = []api.Prefix{{A: four.A, Bits: 8}} }, false},
		{"wrong prefix behind", func(c *api.Conf) { c.Peers[0].Allowed[2].Bits = 129 }, false},
		{"order of Bits", func(c *api.Conf) { c.Peers[0].Allowed = list("10.0.0.0/9", "10.0.0.0/8") }, false},
		{"order of addresses", func(c *api.Conf) { c.Peers[0].Allowed = list("11.0.0.0/8", "10.0.0.0/8") }, false},
		{"order of families", func(c *api.Conf) { c.Peers[0].Allowed = list("::/0", "10.0.0.0/8") }, false},
		{"order at the end", func(c *api.Conf) { c.Peers[0].Allowed = list("10.0.0.0/8", "::2", "::1") }, false},
		{"prefix twice", func(c *api.Conf) { c.Peers[0].Allowed = list("10.0.0.0/8", "10.0.0.0/8") }, false},
		{"prefix of two", func(c *api.Conf) { c.Peers[2].Allowed = list("0.0.0.0/0", "10.0.0.0/9") }, false},
		{"same address, other Bits, of two", func(c *api.Conf) { c.Peers[2].Allowed = list("10.0.0.0/10") }, true},
		{"64 prefixes", func(c *api.Conf) { c.Peers[1].Allowed = many(0, 60) }, true},
		{"65 prefixes", func(c *api.Conf) { c.Peers[1].Allowed = many(0, 61) }, false},
		{"64 prefixes of one", func(c *api.Conf) { c.Peers = []api.Peer{{Key: one, Allowed: many(0, 64)}} }, true},
		{"65 prefixes of one", func(c *api.Conf) { c.Peers = []api.Peer{{Key: one, Allowed: many(0, 65)}} }, false},
	} {
		conf := whole()
		c.does(&conf)
		if got := view.Right(conf); got != c.right {
			t.Errorf("Right, %s: %t", c.name, got)
		}
	}
}

// P34.2: without what was counted, right or not.
func TestBare(t *testing.T) {
	want := whole()
	want.Peers[0].Sent, want.Peers[0].Got, want.Peers[2].Got = 0, 0, 0
	if got := view.Bare(whole()); !view.Same(got, want) {
		t.Errorf("Bare: %v", got)
	}
	if got := view.Bare(want); !view.Same(got, want) {
		t.Errorf("Bare, once more: %v", got)
	}
	if got := view.Bare(api.Conf{}); !reflect.DeepEqual(got, api.Conf{}) {
		t.Errorf("Bare of nothing: %v", got)
	}
	wrong := api.Conf{Port: -1, Peers: []api.Peer{{Keep: -1, Sent: 5, Allowed: make([]api.Prefix, 65)}, {End: api.Endpoint{Port: 1}, Got: 5}}}
	bare := api.Conf{Port: -1, Peers: []api.Peer{{Keep: -1, Allowed: make([]api.Prefix, 65)}, {End: api.Endpoint{Port: 1}}}}
	if got := view.Bare(wrong); !view.Same(got, bare) {
		t.Errorf("Bare of a wrong one: %v", got)
	}
}

// P34.2: each field counts; R1: a list nil is one without elements.
func TestSame(t *testing.T) {
	for name, does := range map[string]func(c *api.Conf){
		"private":        func(c *api.Conf) { c.Private[31]++ },
		"port":           func(c *api.Conf) { c.Port++ },
		"mark":           func(c *api.Conf) { c.Mark++ },
		"fewer peers":    func(c *api.Conf) { c.Peers = c.Peers[:2] },
		"more peers":     func(c *api.Conf) { c.Peers = append(c.Peers, api.Peer{}) },
		"no peers":       func(c *api.Conf) { c.Peers = nil },
		"order of peers": func(c *api.Conf) { slices.Reverse(c.Peers) },
		"key":            func(c *api.Conf) { c.Peers[0].Key[0]++ },
		"psk":            func(c *api.Conf) { c.Peers[0].Psk[31]++ },
		"end's family":   func(c *api.Conf) { c.Peers[0].End.A.V = 6 },
		"end's bits":     func(c *api.Conf) { c.Peers[0].End.A.B[15]++ },
		"end's port":     func(c *api.Conf) { c.Peers[0].End.Port++ },
		"keep":           func(c *api.Conf) { c.Peers[2].Keep++ },
		"sent":           func(c *api.Conf) { c.Peers[0].Sent++ },
		"got":            func(c *api.Conf) { c.Peers[2].Got++ },
		"fewer prefixes": func(c *api.Conf) { c.Peers[0].Allowed = c.Peers[0].Allowed[:2] },
		"more prefixes":  func(c *api.Conf) { c.Peers[1].Allowed = list("::/0") },
		"order":          func(c *api.Conf) { slices.Reverse(c.Peers[0].Allowed) },
		"prefix":         func(c *api.Conf) { c.Peers[2].Allowed[0].Bits++ },
	} {
		c := whole()
		does(&c)
		if view.Same(c, whole()) || view.Same(whole(), c) {
			t.Errorf("Same, %s", name)
		}
	}
	empty := whole()
	empty.Peers[1].Allowed = []api.Prefix{}
	if !view.Same(whole(), whole()) || !view.Same(empty, whole()) || !view.Same(whole(), empty) {
		t.Error("not Same")
	}
	if !view.Same(api.Conf{}, api.Conf{Peers: []api.Peer{}}) {
		t.Error("not Same: no peers")
	}
}

// P34.3: it says all, but what was counted, and an End that is none.
func TestRequest(t *testing.T) {
	want := api.Request{HasPrivate: true, Private: three, HasPort: true, Port: 51820, HasMark: true, Mark: 7, Replace: true, Peers: []api.PeerChange{
		{Key: two, HasPsk: true, Psk: three, HasEnd: true, End: four, HasKeep: true, Keep: 25, Replace: true, Allowed: list("10.0.0.0/8", "10.0.0.0/9", "::/0")},
		{Key: one, HasPsk: true, HasKeep: true, Replace: true},
		{Key: three, HasPsk: true, HasEnd: true, End: six, HasKeep: true, Replace: true, Allowed: list("0.0.0.0/0")},
	}}
	if got := view.Request(whole()); !change.Same(got, want) || !change.Right(got) {
		t.Errorf("Request: %v", got)
	}
	zero := api.Request{HasPrivate: true, HasPort: true, HasMark: true, Replace: true}
	if got := view.Request(api.Conf{}); !change.Same(got, zero) {
		t.Errorf("Request of nothing: %v", got)
	}
	wrong := api.Conf{Port: -1, Peers: []api.Peer{{End: api.Endpoint{Port: 1}, Keep: -1, Allowed: []api.Prefix{{}}}}}
	want = api.Request{HasPrivate: true, HasPort: true, Port: -1, HasMark: true, Replace: true, Peers: []api.PeerChange{
		{HasPsk: true, HasEnd: true, End: api.Endpoint{Port: 1}, HasKeep: true, Keep: -1, Replace: true, Allowed: []api.Prefix{{}}},
	}}
	if got := view.Request(wrong); !change.Same(got, want) {
		t.Errorf("Request of a wrong one: %v", got)
	}
}

// full is a configuration with no room left.
func full() api.Conf {
	c := api.Conf{Peers: peers(16)}
	for i := range c.Peers {
		c.Peers[i].Allowed = many(4*i, 4*i+4)
	}
	return c
}

// anyState is one that came about by many requests.
func anyState(source *rand.Rand) *state.State {
	s := state.New()
	for range source.Intn(40) {
		k := api.Key{1, byte(source.Intn(20))}
		p := api.PeerChange{Key: k, Remove: source.Intn(6) == 0, HasKeep: true, Keep: source.Intn(65536), HasPsk: true, Psk: api.Key{byte(source.Intn(3))}}
		for range source.Intn(9) {
			from := source.Intn(90)
			p.Allowed = append(p.Allowed, many(from, from+1)...)
			p.Allowed = append(p.Allowed, list("::/0", "10.0.0.0/8", "10.0.0.0/9")[source.Intn(3)])
		}
		s.Apply(api.Request{HasPort: true, Port: source.Intn(65536), HasMark: true, Mark: source.Uint32(), Peers: []api.PeerChange{p}})
		s.Count(k, source.Uint64(), source.Uint64())
		if source.Intn(2) == 0 {
			s.Seen(k, []api.Endpoint{four, six}[source.Intn(2)])
		}
	}
	return s
}

// P34.4: what Of tells is right; a right one's Request makes any state have it.
func TestFollows(t *testing.T) {
	source := rand.New(rand.NewSource(34))
	confs := []api.Conf{{}, whole(), full(), {Peers: peers(16)}, {Peers: []api.Peer{{Key: one, Allowed: many(0, 64)}}}}
	for range 150 {
		confs = append(confs, view.Of(anyState(source)))
	}
	s := state.New()
	for i, c := range confs {
		if !view.Right(c) {
			t.Fatalf("Of, %d: %v", i, c)
		}
		if i%2 == 0 {
			s = anyState(source)
		}
		if fail := s.Apply(view.Request(c)); fail != api.OK || !view.Same(view.Of(s), view.Bare(c)) {
			t.Fatalf("Apply, %d: %v, %v, not %v", i, fail, view.Of(s), view.Bare(c))
		}
	}
}

// R2: what is answered shares nothing with what was handed in, which is not changed.
func TestAnew(t *testing.T) {
	c := whole()
	view.Right(c)
	r, b := view.Request(c), view.Bare(c)
	for i := range c.Peers {
		for j := range c.Peers[i].Allowed {
			r.Peers[i].Allowed[j] = api.Prefix{}
			b.Peers[i].Allowed[j] = api.Prefix{}
		}
		b.Peers[i] = api.Peer{}
	}
	if !reflect.DeepEqual(c, whole()) {
		t.Errorf("handed in: %v", c)
	}
	s := state.New()
	s.Apply(view.Request(c))
	shown := view.Of(s)
	shown.Peers[0].Allowed[0], shown.Peers[1] = api.Prefix{}, api.Peer{}
	if !view.Same(view.Of(s), view.Bare(c)) {
		t.Errorf("Of: %v", view.Of(s))
	}
}

// The chapter's example.
func TestExample(t *testing.T) {
	if got := view.Of(state.New()); !view.Same(got, api.Conf{}) {
		t.Errorf("Of a new state: %v", got)
	}
}
