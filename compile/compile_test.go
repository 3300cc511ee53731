package compile_test

import (
	"math"
	"math/rand"
	"reflect"
	"slices"
	"testing"

	"crawlway/addr"
	"crawlway/api"
	"crawlway/change"
	"crawlway/cidr"
	"crawlway/compile"
	"crawlway/iniread"
	"crawlway/iniwrite"
	"crawlway/state"
	"crawlway/view"
)

var (
	one, two, three = api.Key{1}, api.Key{31: 2}, api.Key{3, 31: 3}
	four            = api.Endpoint{A: addr.Four([4]byte{192, 0, 2, 1}), Port: 9}
	six             = api.Endpoint{A: addr.Six([16]byte{32, 1, 15: 1}), Port: 65535}
)

// list are the prefixes of texts.
func list(texts ...string) []api.Prefix {
	var l []api.Prefix
	for _, s := range texts {
		p, _ := cidr.Parse(s)
		l = append(l, p)
	}
	return l
}

// file says all that one can say.
func file() api.Ini {
	return api.Ini{Private: three, Port: 51820, Mark: math.MaxUint32, Peers: []api.IniPeer{
		{Key: two, Psk: three, End: four, Keep: 25, Allowed: list("::/0", "10.0.0.0/8", "::/0")},
		{Key: one},
		{Key: two, End: six, Keep: 65535, Allowed: list("0.0.0.0/0")},
	}}
}

// P45.1: it says all, but an End that is none.
func TestRequest(t *testing.T) {
	want := api.Request{HasPrivate: true, Private: three, HasPort: true, Port: 51820, HasMark: true, Mark: math.MaxUint32, Replace: true, Peers: []api.PeerChange{
		{Key: two, HasPsk: true, Psk: three, HasEnd: true, End: four, HasKeep: true, Keep: 25, Replace: true, Allowed: list("::/0", "10.0.0.0/8", "::/0")},
		{Key: one, HasPsk: true, HasKeep: true, Replace: true},
		{Key: two, HasPsk: true, HasEnd: true, End: six, HasKeep: true, Keep: 65535, Replace: true, Allowed: list("0.0.0.0/0")},
	}}
	if got := compile.Request(file()); !change.Same(got, want) {
		t.Errorf("Request: %v", got)
	}
	wrong := api.Ini{Port: -1, Peers: []api.IniPeer{{End: api.Endpoint{Port: 1}, Keep: -1, Allowed: []api.Prefix{{}}}}}
	want = api.Request{HasPrivate: true, HasPort: true, Port: -1, HasMark: true, Replace: true, Peers: []api.PeerChange{
		{HasPsk: true, HasEnd: true, End: api.Endpoint{Port: 1}, HasKeep: true, Keep: -1, Replace: true, Allowed: []api.Prefix{{}}},
	}}
	if got := compile.Request(wrong); !change.Same(got, want) {
		t.Errorf("Request of a wrong one: %v", got)
	}
}

// P45.2: all but what was counted, right or not.
func TestOf(t *testing.T) {
	c := api.Conf{Private: three, Port: 51820, Mark: math.MaxUint32, Peers: []api.Peer{
		{Key: two, Psk: three, End: four, Keep: 25, Sent: 5, Got: math.MaxUint64, Allowed: list("::/0", "10.0.0.0/8", "::/0")},
		{Key: one, Got: 7},
		{Key: two, End: six, Keep: 65535, Sent: 1, Allowed: list("0.0.0.0/0")},
	}}
	if got := compile.Of(c); !iniwrite.Same(got, file()) {
		t.Errorf("Of: %v", got)
	}
	if got := compile.Of(api.Conf{}); !iniwrite.Same(got, api.Ini{}) {
		t.Errorf("Of nothing: %v", got)
	}
	wrong := api.Conf{Port: -1, Peers: []api.Peer{{Sent: 1, End: api.Endpoint{Port: 1}, Keep: -1, Allowed: []api.Prefix{{}}}}}
	want := api.Ini{Port: -1, Peers: []api.IniPeer{{End: api.Endpoint{Port: 1}, Keep: -1, Allowed: []api.Prefix{{}}}}}
	if got := compile.Of(wrong); !iniwrite.Same(got, want) {
		t.Errorf("Of a wrong one: %v", got)
	}
}

// P45.3: the Request of a right file is right, at all edges, and only of such.
func TestRequestRight(t *testing.T) {
	for name, does := range map[string]func(x *api.Ini){
		"nothing":     func(x *api.Ini) { *x = api.Ini{} },
		"no end":      func(x *api.Ini) { x.Peers[0].End = api.Endpoint{} },
		"port":        func(x *api.Ini) { x.Port = 65535 },
		"64 peers":    func(x *api.Ini) { x.Peers = slices.Repeat(x.Peers[:1], 64) },
		"64 prefixes": func(x *api.Ini) { x.Peers[1].Allowed = slices.Repeat(list("::/0"), 64) },
		"wrong port":  func(x *api.Ini) { x.Port = 65536 },
		"zero key":    func(x *api.Ini) { x.Peers[1].Key = api.Key{} },
		"wrong end":   func(x *api.Ini) { x.Peers[1].End.Port = 1 },
		"wrong keep":  func(x *api.Ini) { x.Peers[1].Keep = -1 },
		"65 peers":    func(x *api.Ini) { x.Peers = slices.Repeat(x.Peers[:1], 65) },
		"65 prefixes": func(x *api.Ini) { x.Peers[1].Allowed = slices.Repeat(list("::/0"), 65) },
		"zero prefix": func(x *api.Ini) { x.Peers[1].Allowed = []api.Prefix{{}} },
	} {
		x := file()
		does(&x)
		if change.Right(compile.Request(x)) != iniwrite.Right(x) {
			t.Errorf("Request, %s: %t", name, iniwrite.Right(x))
		}
	}
}

// many are so many prefixes, in order.
func many(from, to int) []api.Prefix {
	var l []api.Prefix
	for i := from; i < to; i++ {
		l = append(l, cidr.Whole(addr.Four([4]byte{10, 0, 0, byte(i)})))
	}
	return l
}

// full is a configuration with no room left.
func full() api.Conf {
	c := api.Conf{Private: one, Port: 65535, Mark: math.MaxUint32}
	for i := range 16 {
		c.Peers = append(c.Peers, api.Peer{Key: api.Key{9, byte(i)}, Psk: two, End: six, Keep: 65535, Sent: math.MaxUint64, Allowed: many(4*i, 4*i+4)})
	}
	return c
}

// anyConf is what some requests make, with what was counted.
func anyConf(source *rand.Rand) api.Conf {
	s := state.New()
	for range source.Intn(30) {
		k := api.Key{1, byte(source.Intn(16))}
		p := api.PeerChange{Key: k, HasPsk: true, Psk: api.Key{byte(source.Intn(2))}, HasKeep: true, Keep: source.Intn(2) * source.Intn(65536)}
		for range source.Intn(5) {
			p.Allowed = append(p.Allowed, list("::/0", "10.0.0.0/8", "::ffff:1.2.3.4", "1::/16", "10.0.0.0/9")[source.Intn(5)])
			p.Allowed = append(p.Allowed, many(source.Intn(50), 50)[0])
		}
		s.Apply(api.Request{HasPrivate: true, Private: api.Key{byte(source.Intn(2))}, HasPort: true, Port: source.Intn(2) * source.Intn(65536), HasMark: true, Mark: source.Uint32() >> source.Intn(33), Peers: []api.PeerChange{p}})
		s.Count(k, source.Uint64(), source.Uint64())
		if source.Intn(2) == 0 {
			s.Seen(k, []api.Endpoint{four, six}[source.Intn(2)])
		}
	}
	return view.Of(s)
}

// P45.3: a configuration, written as a file, read, and done by a new state, is there again, but for what was counted.
func TestFollows(t *testing.T) {
	source := rand.New(rand.NewSource(45))
	confs := []api.Conf{{}, full(), {Peers: []api.Peer{{Key: one, Got: 1, Allowed: many(0, 64)}}}}
	for range 300 {
		confs = append(confs, anyConf(source))
	}
	for i, c := range confs {
		text, fail := iniwrite.Text(compile.Of(c))
		if !view.Right(c) || fail != api.OK {
			t.Fatalf("Text, %d: %v", i, fail)
		}
		x, line, fail := iniread.Read(text)
		if fail != api.OK {
			t.Fatalf("Read, %d: %d, %v", i, line, fail)
		}
		s := state.New()
		if fail := s.Apply(compile.Request(x)); fail != api.OK || !view.Same(view.Of(s), view.Bare(c)) {
			t.Fatalf("Apply, %d: %v, %v, not %v", i, fail, view.Of(s), view.Bare(c))
		}
		if !change.Same(compile.Request(x), view.Request(c)) {
			t.Fatalf("Request, %d: %v", i, compile.Request(x))
		}
	}
}

// P45.1: what there is goes.
func TestReplaces(t *testing.T) {
	s := state.New()
	s.Apply(view.Request(full()))
	if fail := s.Apply(compile.Request(api.Ini{Port: 7, Peers: []api.IniPeer{{Key: two}}})); fail != api.OK || !view.Same(view.Of(s), api.Conf{Port: 7, Peers: []api.Peer{{Key: two}}}) {
		t.Errorf("Apply: %v, %v", fail, view.Of(s))
	}
}

// R2: what is answered shares nothing with what was handed in, which is not changed.
func TestAnew(t *testing.T) {
	x := file()
	r := compile.Request(x)
	r.Peers[0].Allowed[0], r.Peers[1] = api.Prefix{}, api.PeerChange{}
	if !reflect.DeepEqual(x, file()) {
		t.Errorf("Request: %v", x)
	}
	c := full()
	f := compile.Of(c)
	f.Peers[0].Allowed[0], f.Peers[1] = api.Prefix{}, api.IniPeer{}
	if !reflect.DeepEqual(c, full()) {
		t.Errorf("Of: %v", c)
	}
}

// R1: a list without elements is as good as nil.
func TestEmpty(t *testing.T) {
	if got := compile.Request(api.Ini{Peers: []api.IniPeer{}}); !change.Same(got, compile.Request(api.Ini{})) {
		t.Errorf("Request: %v", got)
	}
	if got := compile.Of(api.Conf{Peers: []api.Peer{{Allowed: []api.Prefix{}}}}); !iniwrite.Same(got, api.Ini{Peers: make([]api.IniPeer, 1)}) {
		t.Errorf("Of: %v", got)
	}
}

// The chapter's example.
func TestExample(t *testing.T) {
	want := api.Request{HasPrivate: true, HasPort: true, HasMark: true, Replace: true}
	if got := compile.Request(api.Ini{}); !change.Same(got, want) {
		t.Errorf("Request: %v", got)
	}
}
