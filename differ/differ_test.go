package differ_test

import (
	"math/rand"
	"reflect"
	"slices"
	"testing"

	"crawlway/addr"
	"crawlway/api"
	"crawlway/change"
	"crawlway/cidr"
	"crawlway/differ"
	"crawlway/state"
	"crawlway/view"
)

var (
	a, b, c, d = api.Key{1}, api.Key{31: 2}, api.Key{3}, api.Key{4, 31: 4}
	here       = at(1)
	none       = api.Endpoint{}
)

// at is an endpoint.
func at(n int) api.Endpoint {
	return api.Endpoint{A: addr.Four([4]byte{192, 0, 2, byte(n)}), Port: n}
}

// list are so many prefixes, in order.
func list(from, to int) []api.Prefix {
	var l []api.Prefix
	for i := from; i < to; i++ {
		l = append(l, cidr.Whole(addr.Four([4]byte{10, 0, 0, byte(i)})))
	}
	return l
}

// of is a configuration of peers.
func of(l ...api.Peer) api.Conf { return api.Conf{Peers: l} }

// named is a configuration of peers of which nothing is said but their keys.
func named(keys ...api.Key) api.Conf {
	var l []api.Peer
	for _, k := range keys {
		l = append(l, api.Peer{Key: k})
	}
	return of(l...)
}

// whole is a configuration that has all that one can have.
func whole() api.Conf {
	return api.Conf{Private: d, Port: 51820, Mark: 7, Peers: []api.Peer{
		{Key: a, Psk: d, End: here, Keep: 25, Sent: 5, Got: 6, Allowed: list(0, 3)},
		{Key: b},
		{Key: c, End: at(2), Allowed: list(3, 4)},
	}}
}

// patches asks for a patch, and whether it does what it is for.
func patches(t *testing.T, name string, from, to api.Conf, want api.Request) {
	t.Helper()
	got := differ.Patch(from, to)
	if !change.Same(got, want) {
		t.Errorf("Patch, %s: %v, not %v", name, got, want)
	}
	becomes(t, name, from, to, got)
}

// becomes lets a state that has one configuration have another one.
func becomes(t *testing.T, name string, from, to api.Conf, r api.Request) {
	t.Helper()
	s := state.New()
	s.Apply(view.Request(from))
	for _, p := range from.Peers {
		s.Count(p.Key, p.Sent, p.Got)
	}
	if got := view.Of(s); !view.Same(got, from) {
		t.Fatalf("Of, %s: %v, not %v", name, got, from)
	}
	if fail := s.Apply(r); fail != api.OK {
		t.Errorf("Apply, %s: %v", name, fail)
	}
	if got := view.Bare(view.Of(s)); !view.Same(got, view.Bare(to)) {
		t.Errorf("Of, %s: %v, not %v", name, got, to)
	}
}

// P35.1: the keys of both stand in front, in one order.
func TestGrowsKeys(t *testing.T) {
	for _, x := range []struct {
		from, to api.Conf
		grows    bool
	}{
		{named(), named(), true},
		{named(), named(a, b), true},
		{named(a, b), named(), true},
		{named(a, b), named(a, b), true},
		{named(a, b), named(b, a), false},
		{named(a, b), named(a, b, c, d), true},
		{named(a, b), named(b, c), true},
		{named(a, b), named(c, b), false},
		{named(a, b), named(a, c, b), false},
		{named(a, b), named(c, a, b), false},
		{named(a, b), named(c, d), true},
		{named(c, a, d, b), named(a, b, c), false},
		{named(c, a, d, b), named(c, a, b), true},
		{named(d, a, c, b), named(a, b), true},
		{named(d, a, c, b), named(b, a), false},
		{named(a), named(b, a), false},
		{named(a, b, c), named(a), true},
		{named(a, b, c), named(c), true},
		{named(a, b, c), named(c, d), true},
		{named(a, b, c), named(d, c), false},
	} {
		if got := differ.Grows(x.from, x.to); got != x.grows {
			t.Errorf("Grows(%v, %v): %t", x.from, x.to, got)
		}
	}
}

// P35.1: no peer of both loses its End; all else may become what it will.
func TestGrowsEnd(t *testing.T) {
	for _, x := range []struct {
		from, to api.Conf
		grows    bool
	}{
		{of(api.Peer{Key: a, End: here}), of(api.Peer{Key: a, End: none}), false},
		{of(api.Peer{Key: a, End: none}), of(api.Peer{Key: a, End: here}), true},
		{of(api.Peer{Key: a, End: here}), of(api.Peer{Key: a, End: at(2)}), true},
		{of(api.Peer{Key: a}, api.Peer{Key: b, End: here}), named(a, b), false},
		{of(api.Peer{Key: a}, api.Peer{Key: b, End: here}), named(a, c), true},
		{of(api.Peer{Key: b, End: here}, api.Peer{Key: a}), named(a, c), true},
		{named(a), of(api.Peer{Key: a}, api.Peer{Key: b, End: here}), true},
		{whole(), named(a, b, c), false},
		{named(a, b, c), whole(), true},
		{whole(), of(api.Peer{Key: a, End: at(9)}, api.Peer{Key: c, End: at(9)}, api.Peer{Key: d}), true},
	} {
		if got := differ.Grows(x.from, x.to); got != x.grows {
			t.Errorf("Grows(%v, %v): %t", x.from, x.to, got)
		}
	}
}

// wrong are configurations that are not right.
func wrong() []api.Conf {
	many := named(a)
	many.Peers[0].Allowed = list(0, 65)
	return []api.Conf{
		{Port: -1}, {Port: 65536}, named(a, a), named(api.Key{}), named(a, b, a), many, of(make([]api.Peer, 17)...),
		of(api.Peer{Key: a, Keep: -1}), of(api.Peer{Key: a, End: api.Endpoint{Port: 1}}), of(api.Peer{Key: a, Allowed: []api.Prefix{{}}}),
		of(api.Peer{Key: a, Allowed: list(0, 1)}, api.Peer{Key: b, Allowed: list(0, 1)}),
	}
}

// P35.2, P1: of others than right ones the zero request; such a one does not grow, nor does any to it.
func TestWrong(t *testing.T) {
	for i, x := range wrong() {
		for _, y := range append([]api.Conf{{}, whole()}, wrong()...) {
			if differ.Grows(x, y) || differ.Grows(y, x) {
				t.Errorf("Grows, %d: true", i)
			}
			if got := differ.Patch(x, y); !reflect.DeepEqual(got, api.Request{}) {
				t.Errorf("Patch, %d: %v", i, got)
			}
			if got := differ.Patch(y, x); !reflect.DeepEqual(got, api.Request{}) {
				t.Errorf("Patch, %d: %v", i, got)
			}
		}
	}
}

// P35.2: where one can not grow, all is said anew.
func TestPatchAnew(t *testing.T) {
	lost := whole()
	lost.Peers[0].End = none
	turned := whole()
	slices.Reverse(turned.Peers)
	between := whole()
	between.Peers = slices.Insert(between.Peers, 1, api.Peer{Key: d})
	for name, to := range map[string]api.Conf{"End": lost, "order": turned, "between": between} {
		patches(t, name, whole(), to, view.Request(to))
		if r := differ.Patch(whole(), to); !r.Replace || !r.HasPrivate || len(r.Peers) != len(to.Peers) {
			t.Errorf("Patch, %s: %v", name, r)
		}
	}
}

// P35.2: of the device itself what is unlike, and nothing else.
func TestPatchDevice(t *testing.T) {
	for _, x := range []struct {
		name string
		does func(c *api.Conf)
		want api.Request
	}{
		{"nothing", func(c *api.Conf) {}, api.Request{}},
		{"private", func(c *api.Conf) { c.Private = a }, api.Request{HasPrivate: true, Private: a}},
		{"no private", func(c *api.Conf) { c.Private = api.Key{} }, api.Request{HasPrivate: true}},
		{"port", func(c *api.Conf) { c.Port = 65535 }, api.Request{HasPort: true, Port: 65535}},
		{"port 0", func(c *api.Conf) { c.Port = 0 }, api.Request{HasPort: true}},
		{"mark", func(c *api.Conf) { c.Mark = 1 }, api.Request{HasMark: true, Mark: 1}},
		{"mark 0", func(c *api.Conf) { c.Mark = 0 }, api.Request{HasMark: true}},
		{"all", func(c *api.Conf) { c.Private, c.Port, c.Mark = b, 1, 2 }, api.Request{HasPrivate: true, Private: b, HasPort: true, Port: 1, HasMark: true, Mark: 2}},
		{"counted", func(c *api.Conf) { c.Peers[0].Sent, c.Peers[0].Got, c.Peers[1].Got = 1, 2, 3 }, api.Request{}},
		{"empty list", func(c *api.Conf) { c.Peers[1].Allowed = []api.Prefix{} }, api.Request{}},
	} {
		to := whole()
		x.does(&to)
		patches(t, x.name, whole(), to, x.want)
		if r := differ.Patch(whole(), to); differ.Empty(r) != change.Same(x.want, api.Request{}) {
			t.Errorf("Empty, %s: %v", x.name, r)
		}
	}
}

// P35.2: of a peer that stays what is unlike, and its prefixes ahead of all that come.
func TestPatchPeer(t *testing.T) {
	moved := api.PeerChange{Key: a, Update: true, Replace: true}
	for _, x := range []struct {
		name string
		does func(p *api.Peer)
		want []api.PeerChange
	}{
		{"psk", func(p *api.Peer) { p.Psk = a }, []api.PeerChange{{Key: a, Update: true, HasPsk: true, Psk: a}}},
		{"no psk", func(p *api.Peer) { p.Psk = api.Key{} }, []api.PeerChange{{Key: a, Update: true, HasPsk: true}}},
		{"end", func(p *api.Peer) { p.End = at(3) }, []api.PeerChange{{Key: a, Update: true, HasEnd: true, End: at(3)}}},
		{"keep", func(p *api.Peer) { p.Keep = 3 }, []api.PeerChange{{Key: a, Update: true, HasKeep: true, Keep: 3}}},
		{"keep 0", func(p *api.Peer) { p.Keep = 0 }, []api.PeerChange{{Key: a, Update: true, HasKeep: true}}},
		{"more prefixes", func(p *api.Peer) { p.Allowed = append(p.Allowed, list(7, 8)...) }, []api.PeerChange{moved, {Key: a, Update: true, Allowed: slices.Concat(list(0, 3), list(7, 8))}}},
		{"fewer prefixes", func(p *api.Peer) { p.Allowed = p.Allowed[:1] }, []api.PeerChange{moved, {Key: a, Update: true, Allowed: list(0, 1)}}},
		{"no prefixes", func(p *api.Peer) { p.Allowed = nil }, []api.PeerChange{moved, {Key: a, Update: true}}},
		{"all", func(p *api.Peer) { *p = api.Peer{Key: a, End: at(3), Allowed: list(9, 10)} }, []api.PeerChange{moved, {Key: a, Update: true, HasPsk: true, HasEnd: true, End: at(3), HasKeep: true, Allowed: list(9, 10)}}},
		{"end, and counted", func(p *api.Peer) { p.End, p.Sent = at(3), 0 }, []api.PeerChange{{Key: a, Update: true, HasEnd: true, End: at(3)}}},
	} {
		to := whole()
		x.does(&to.Peers[0])
		patches(t, x.name, whole(), to, api.Request{Peers: x.want})
	}
	from, to := named(a), of(api.Peer{Key: a, End: here})
	patches(t, "first end", from, to, api.Request{Peers: []api.PeerChange{{Key: a, Update: true, HasEnd: true, End: here}}})
}

// P35.2: who goes stands ahead of whose prefixes go, and these ahead of one row of all that become, and come.
func TestPatchOrder(t *testing.T) {
	e, f := api.Key{5}, api.Key{6}
	from := of(
		api.Peer{Key: d, Allowed: list(0, 2)}, api.Peer{Key: a, Allowed: list(2, 4)}, api.Peer{Key: c, Keep: 1, End: here},
		api.Peer{Key: e, Allowed: list(4, 5)}, api.Peer{Key: b, Psk: a, Allowed: list(5, 6)})
	to := of(
		api.Peer{Key: a, Psk: d, Allowed: list(5, 6)}, api.Peer{Key: c, Keep: 1, End: here, Sent: 9}, api.Peer{Key: b, Psk: a, Allowed: list(2, 3)},
		api.Peer{Key: f, Psk: a, End: here, Keep: 4, Got: 5, Allowed: list(0, 1)}, api.Peer{Key: api.Key{7}})
	patches(t, "all", from, to, api.Request{Peers: []api.PeerChange{
		{Key: d, Remove: true}, {Key: e, Remove: true},
		{Key: a, Update: true, Replace: true}, {Key: b, Update: true, Replace: true},
		{Key: a, Update: true, HasPsk: true, Psk: d, Allowed: list(5, 6)},
		{Key: b, Update: true, Allowed: list(2, 3)},
		{Key: f, HasPsk: true, Psk: a, HasEnd: true, End: here, HasKeep: true, Keep: 4, Allowed: list(0, 1)},
		{Key: api.Key{7}, HasPsk: true, HasKeep: true},
	}})
}

// P35.2: both may be without any room left.
func TestPatchFull(t *testing.T) {
	var from, to api.Conf
	for i := range 16 {
		from.Peers = append(from.Peers, api.Peer{Key: api.Key{9, byte(i)}, Allowed: list(4*i, 4*i+4)})
		to.Peers = append(to.Peers, api.Peer{Key: api.Key{9, byte(i + 8)}, Allowed: list(100-4*i, 104-4*i)})
	}
	if !differ.Grows(from, to) {
		t.Error("Grows: false")
	}
	r := differ.Patch(from, to)
	if len(r.Peers) != 8+8+16 || r.Replace {
		t.Errorf("Patch: %v", r)
	}
	becomes(t, "full", from, to, r)
	slices.Reverse(to.Peers)
	becomes(t, "turned", from, to, differ.Patch(from, to))
}

// P35.3: each Has, Replace and any peer count, and nothing else.
func TestEmpty(t *testing.T) {
	for _, r := range []api.Request{{}, {Peers: []api.PeerChange{}}, {Private: a, Port: 1, Mark: 1}} {
		if !differ.Empty(r) {
			t.Errorf("Empty(%v): false", r)
		}
	}
	for _, r := range []api.Request{{HasPrivate: true}, {HasPort: true}, {HasMark: true}, {Replace: true}, {Peers: []api.PeerChange{{}}}} {
		if differ.Empty(r) {
			t.Errorf("Empty(%v): true", r)
		}
	}
}

// anyConf is any right configuration, of few keys and prefixes.
func anyConf(source *rand.Rand) api.Conf {
	conf := api.Conf{Private: api.Key{byte(source.Intn(2))}, Port: source.Intn(2), Mark: uint32(source.Intn(2))}
	keys := source.Perm(18)[:source.Intn(6)]
	if source.Intn(3) > 0 {
		slices.Sort(keys)
	}
	for _, k := range keys {
		p := api.Peer{Key: api.Key{1, byte(k)}, Psk: api.Key{byte(source.Intn(2))}, Keep: source.Intn(2), Sent: source.Uint64(), Got: source.Uint64()}
		if source.Intn(4) > 0 {
			p.End = at(1 + source.Intn(2))
		}
		conf.Peers = append(conf.Peers, p)
	}
	for i := range 40 {
		if n := len(conf.Peers); n > 0 && source.Intn(2) == 0 {
			p := &conf.Peers[source.Intn(n)]
			p.Allowed = append(p.Allowed, list(i, i+1)...)
		}
	}
	return conf
}

// P35.4: whatever both are, what is asked for can be done, and does it; of one and the same it is nothing.
func TestFollows(t *testing.T) {
	source := rand.New(rand.NewSource(35))
	grown, anew := 0, 0
	for range 1500 {
		from, to := anyConf(source), anyConf(source)
		if !view.Right(from) || !view.Right(to) {
			t.Fatalf("wrong: %v, %v", from, to)
		}
		r := differ.Patch(from, to)
		becomes(t, "any", from, to, r)
		if !differ.Empty(differ.Patch(from, from)) || !differ.Grows(from, from) || !change.Right(r) {
			t.Errorf("Patch: %v, %v", r, differ.Patch(from, from))
		}
		if differ.Grows(from, to) {
			grown++
		} else {
			anew++
		}
		if r.Replace == differ.Grows(from, to) || t.Failed() {
			t.Fatalf("Patch of %v, %v: %v", from, to, r)
		}
	}
	if grown < 100 || anew < 100 {
		t.Errorf("%d have grown, %d have not", grown, anew)
	}
}

// R2: what is answered shares nothing with what was handed in, which is not changed.
func TestAnew(t *testing.T) {
	from, to := named(a, b, c), whole()
	want := differ.Patch(from, to)
	back := differ.Patch(to, from)
	for _, r := range []api.Request{differ.Patch(from, to), back, differ.Patch(of(), to)} {
		for i := range r.Peers {
			for j := range r.Peers[i].Allowed {
				r.Peers[i].Allowed[j] = api.Prefix{}
			}
			r.Peers[i] = api.PeerChange{}
		}
	}
	if !reflect.DeepEqual(from, named(a, b, c)) || !reflect.DeepEqual(to, whole()) || !change.Same(differ.Patch(from, to), want) {
		t.Errorf("handed in: %v, %v", from, to)
	}
}

// The chapter's example.
func TestExample(t *testing.T) {
	patches(t, "the zero one", named(a), api.Conf{}, api.Request{Peers: []api.PeerChange{{Key: a, Remove: true}}})
}
