package iniwrite_test

import (
	"math"
	"math/rand"
	"reflect"
	"slices"
	"strings"
	"testing"

	"crawlway/addr"
	"crawlway/api"
	"crawlway/cidr"
	"crawlway/iniread"
	"crawlway/iniwrite"
)

var (
	one, two = api.Key{1}, api.Key{31: 2}
	four     = api.Endpoint{A: addr.Four([4]byte{192, 0, 2, 1}), Port: 9}
	six      = api.Endpoint{A: addr.Six([16]byte{32, 1, 15: 1}), Port: 65535}
)

const (
	oneText = "AQAAAAAAAAAAAAAAAAAAAAAAAAAAAAAAAAAAAAAAAAA="
	twoText = "AAAAAAAAAAAAAAAAAAAAAAAAAAAAAAAAAAAAAAAAAAI="
)

// list are the prefixes of texts.
func list(texts ...string) []api.Prefix {
	var l []api.Prefix
	for _, s := range texts {
		p, _ := cidr.Parse(s)
		l = append(l, p)
	}
	return l
}

// many are so many prefixes.
func many(n int) []api.Prefix { return slices.Repeat(list("10.0.0.0/8"), n) }

// peers are so many peers of one key.
func peers(n int) []api.IniPeer { return slices.Repeat([]api.IniPeer{{Key: one}}, n) }

// whole is a file that says all that one can say.
func whole() api.Ini {
	return api.Ini{Private: two, Port: 51820, Mark: math.MaxUint32, Peers: []api.IniPeer{
		{Key: one, Psk: two, End: four, Keep: 25, Allowed: list("::/0", "10.0.0.0/8", "::/0")},
		{Key: two},
		{Key: one, End: six, Keep: 65535, Allowed: list("::1/128")},
	}}
}

const wholeText = "[Interface]\nPrivateKey = " + twoText + "\nListenPort = 51820\nFwMark = 4294967295\n" +
	"[Peer]\nPublicKey = " + oneText + "\nPresharedKey = " + twoText + "\nEndpoint = 192.0.2.1:9\nPersistentKeepalive = 25\nAllowedIPs = ::/0\nAllowedIPs = 10.0.0.0/8\nAllowedIPs = ::/0\n" +
	"[Peer]\nPublicKey = " + twoText + "\n" +
	"[Peer]\nPublicKey = " + oneText + "\nEndpoint = [2001::1]:65535\nPersistentKeepalive = 65535\nAllowedIPs = ::1/128\n"

// P44.1: each bound by itself.
func TestRight(t *testing.T) {
	of := func(does func(p *api.IniPeer)) api.Ini {
		x := whole()
		does(&x.Peers[1])
		return x
	}
	for _, c := range []struct {
		name  string
		x     api.Ini
		right bool
	}{
		{"nothing", api.Ini{}, true},
		{"all", whole(), true},
		{"no peers", api.Ini{Peers: []api.IniPeer{}}, true},
		{"port 1", api.Ini{Port: 1}, true},
		{"port 65535", api.Ini{Port: 65535}, true},
		{"port 65536", api.Ini{Port: 65536}, false},
		{"port -1", api.Ini{Port: -1}, false},
		{"least port", api.Ini{Port: math.MinInt}, false},
		{"greatest port", api.Ini{Port: math.MaxInt}, false},
		{"greatest mark", api.Ini{Mark: math.MaxUint32}, true},
		{"64 peers of one key", api.Ini{Peers: peers(64)}, true},
		{"65 peers", api.Ini{Peers: peers(65)}, false},
		{"wrong peer in front", api.Ini{Peers: append(make([]api.IniPeer, 1), peers(2)...)}, false},
		{"wrong 64th peer", api.Ini{Peers: append(peers(63), api.IniPeer{})}, false},
		{"zero key", of(func(p *api.IniPeer) { p.Key = api.Key{} }), false},
		{"psk", of(func(p *api.IniPeer) { p.Psk = api.Key{9} }), true},
		{"end 4", of(func(p *api.IniPeer) { p.End = four }), true},
		{"end 6", of(func(p *api.IniPeer) { p.End = six }), true},
		{"end of port 0", of(func(p *api.IniPeer) { p.End = api.Endpoint{A: four.A} }), false},
		{"end of port 65536", of(func(p *api.IniPeer) { p.End = api.Endpoint{A: four.A, Port: 65536} }), false},
		{"end of no family", of(func(p *api.IniPeer) { p.End = api.Endpoint{Port: 1} }), false},
		{"end with more bytes", of(func(p *api.IniPeer) { p.End, p.End.A.B[15] = four, 1 }), false},
		{"keep 65535", of(func(p *api.IniPeer) { p.Keep = 65535 }), true},
		{"keep 65536", of(func(p *api.IniPeer) { p.Keep = 65536 }), false},
		{"keep -1", of(func(p *api.IniPeer) { p.Keep = -1 }), false},
		{"no prefixes", of(func(p *api.IniPeer) { p.Allowed = []api.Prefix{} }), true},
		{"64 times one prefix", of(func(p *api.IniPeer) { p.Allowed = many(64) }), true},
		{"65 prefixes", of(func(p *api.IniPeer) { p.Allowed = many(65) }), false},
		{"zero prefix", of(func(p *api.IniPeer) { p.Allowed = []api.Prefix{{}} }), false},
		{"wrong prefix in front", of(func(p *api.IniPeer) { p.Allowed = many(2); p.Allowed[0].Bits = 6 }), false},
		{"wrong 64th prefix", of(func(p *api.IniPeer) { p.Allowed = many(64); p.Allowed[63].Bits = 33 }), false},
	} {
		if got := iniwrite.Right(c.x); got != c.right {
			t.Errorf("Right, %s: %t", c.name, got)
		}
		text, fail := iniwrite.Text(c.x)
		if c.right != (fail == api.OK) || !c.right && (text != "" || fail != api.ErrArg) {
			t.Errorf("Text, %s: %s, %v", c.name, text, fail)
		}
	}
}

// P44.1: each field counts.
func TestSame(t *testing.T) {
	for name, does := range map[string]func(x *api.Ini){
		"private":        func(x *api.Ini) { x.Private[31]++ },
		"port":           func(x *api.Ini) { x.Port++ },
		"mark":           func(x *api.Ini) { x.Mark++ },
		"fewer peers":    func(x *api.Ini) { x.Peers = x.Peers[:2] },
		"more peers":     func(x *api.Ini) { x.Peers = append(x.Peers, api.IniPeer{}) },
		"no peers":       func(x *api.Ini) { x.Peers = nil },
		"order of peers": func(x *api.Ini) { x.Peers[0], x.Peers[2] = x.Peers[2], x.Peers[0] },
		"key":            func(x *api.Ini) { x.Peers[2].Key[31]++ },
		"psk":            func(x *api.Ini) { x.Peers[2].Psk[31]++ },
		"end's family":   func(x *api.Ini) { x.Peers[2].End.A.V = 4 },
		"end's bits":     func(x *api.Ini) { x.Peers[2].End.A.B[15]++ },
		"end's port":     func(x *api.Ini) { x.Peers[2].End.Port++ },
		"keep":           func(x *api.Ini) { x.Peers[2].Keep++ },
		"fewer prefixes": func(x *api.Ini) { x.Peers[0].Allowed = x.Peers[0].Allowed[:2] },
		"more prefixes":  func(x *api.Ini) { x.Peers[0].Allowed = append(x.Peers[0].Allowed, api.Prefix{}) },
		"no prefixes":    func(x *api.Ini) { x.Peers[2].Allowed = nil },
		"order":          func(x *api.Ini) { x.Peers[0].Allowed = list("10.0.0.0/8", "::/0", "::/0") },
		"prefix":         func(x *api.Ini) { x.Peers[2].Allowed[0].Bits-- },
		"prefix's bits":  func(x *api.Ini) { x.Peers[2].Allowed[0].A.B[0]++ },
	} {
		x, again := whole(), whole()
		does(&x)
		does(&again)
		if iniwrite.Same(x, whole()) || iniwrite.Same(whole(), x) {
			t.Errorf("Same, %s", name)
		}
		if !iniwrite.Same(x, again) {
			t.Errorf("not Same, %s", name)
		}
	}
	if !iniwrite.Same(whole(), whole()) || !iniwrite.Same(api.Ini{}, api.Ini{}) || iniwrite.Same(whole(), api.Ini{}) {
		t.Error("Same")
	}
}

// P44.1, R1: a list nil is one without elements.
func TestSameEmpty(t *testing.T) {
	x := whole()
	x.Peers[1].Allowed = []api.Prefix{}
	if !iniwrite.Same(x, whole()) || !iniwrite.Same(whole(), x) {
		t.Error("not Same: no prefixes")
	}
	if !iniwrite.Same(api.Ini{}, api.Ini{Peers: []api.IniPeer{}}) {
		t.Error("not Same: no peers")
	}
}

// P44.2: the text of all that can be said, and of each part alone.
func TestText(t *testing.T) {
	of := func(p api.IniPeer) api.Ini {
		p.Key = one
		return api.Ini{Peers: []api.IniPeer{p}}
	}
	const peer = "[Interface]\n[Peer]\nPublicKey = " + oneText + "\n"
	for _, c := range []struct {
		x    api.Ini
		text string
	}{
		{whole(), wholeText},
		{api.Ini{Peers: []api.IniPeer{}}, "[Interface]\n"},
		{api.Ini{Private: one}, "[Interface]\nPrivateKey = " + oneText + "\n"},
		{api.Ini{Port: 1}, "[Interface]\nListenPort = 1\n"},
		{api.Ini{Port: 65535}, "[Interface]\nListenPort = 65535\n"},
		{api.Ini{Mark: 1}, "[Interface]\nFwMark = 1\n"},
		{of(api.IniPeer{}), peer},
		{of(api.IniPeer{Allowed: []api.Prefix{}}), peer},
		{of(api.IniPeer{Psk: two}), peer + "PresharedKey = " + twoText + "\n"},
		{of(api.IniPeer{End: four}), peer + "Endpoint = 192.0.2.1:9\n"},
		{of(api.IniPeer{Keep: 1}), peer + "PersistentKeepalive = 1\n"},
		{of(api.IniPeer{Allowed: list("::/0")}), peer + "AllowedIPs = ::/0\n"},
	} {
		if text, fail := iniwrite.Text(c.x); text != c.text || fail != api.OK {
			t.Errorf("Text(%v): %s, %v, not %s", c.x, text, fail, c.text)
		}
	}
}

// P44.2: at most 400 lines, and that it is not right goes ahead of how long it were.
func TestTextLong(t *testing.T) {
	// One line, 6 peers of 2 lines and 64 prefixes each, and one of a line more.
	x := api.Ini{Peers: peers(7)}
	for i := range 6 {
		x.Peers[i].Allowed = many(64)
	}
	x.Peers[6].Psk = two
	text, fail := iniwrite.Text(x)
	if fail != api.OK || strings.Count(text, "\n") != 400 {
		t.Errorf("Text of 400 lines: %d, %v", strings.Count(text, "\n"), fail)
	}
	if back, line, fail := iniread.Read(text); !iniwrite.Same(back, x) || line != 0 || fail != api.OK {
		t.Errorf("Read of 400 lines: %d, %v", line, fail)
	}
	x.Mark = 1
	if text, fail := iniwrite.Text(x); text != "" || fail != api.ErrLong || !iniwrite.Right(x) {
		t.Errorf("Text of 401 lines: %s, %v", text, fail)
	}
	x.Peers = peers(64)
	for i := range x.Peers {
		x.Peers[i].Allowed = many(64)
	}
	if text, fail := iniwrite.Text(x); text != "" || fail != api.ErrLong {
		t.Errorf("Text of the longest: %s, %v", text, fail)
	}
	x.Peers[63].Allowed = many(65)
	if text, fail := iniwrite.Text(x); text != "" || fail != api.ErrArg {
		t.Errorf("Text of a wrong one: %s, %v", text, fail)
	}
}

// anyAddr is some address, now and then one of a form of its own.
func anyAddr(source *rand.Rand) api.Addr {
	var b [16]byte
	for i := range b {
		b[i] = byte(source.Intn(3) * source.Intn(128))
	}
	switch source.Intn(4) {
	case 0:
		return addr.Four([4]byte(b[:4]))
	case 1:
		copy(b[:], make([]byte, 10))
		b[10], b[11] = 255, 255
	case 2:
		copy(b[source.Intn(9):], make([]byte, 8))
	}
	return addr.Six(b)
}

// anyIni is some file, nearly always a right one.
func anyIni(source *rand.Rand) api.Ini {
	number := func() int { return source.Intn(2) * (source.Intn(65541) - 2) }
	x := api.Ini{Port: number(), Mark: uint32(source.Intn(2)) * source.Uint32()}
	source.Read(x.Private[:source.Intn(2)*32])
	for range source.Intn(5) {
		p := api.IniPeer{Keep: number()}
		source.Read(p.Key[:])
		source.Read(p.Psk[:source.Intn(2)*32])
		if source.Intn(2) == 0 {
			p.End = api.Endpoint{A: anyAddr(source), Port: source.Intn(65536)}
		}
		for range source.Intn(4) * source.Intn(20) {
			q, _ := cidr.Of(anyAddr(source), source.Intn(33)+source.Intn(2)*source.Intn(97))
			p.Allowed = append(p.Allowed, q)
		}
		x.Peers = append(x.Peers, p)
	}
	return x
}

// P44.3: the text of a right one is read as it, and what is read is right.
func TestFollows(t *testing.T) {
	source := rand.New(rand.NewSource(44))
	texts := 0
	for range 5000 {
		x := anyIni(source)
		text, fail := iniwrite.Text(x)
		if iniwrite.Right(x) != (fail == api.OK) {
			t.Fatalf("Text(%v): %v", x, fail)
		}
		if fail != api.OK {
			continue
		}
		texts++
		if back, line, fail := iniread.Read(text); !iniwrite.Same(back, x) || line != 0 || fail != api.OK || !iniwrite.Right(back) {
			t.Fatalf("Read(%q): %v, %d, %v, not %v", text, back, line, fail, x)
		}
	}
	if texts < 1000 {
		t.Errorf("%d texts", texts)
	}
}

// P44.3: what is read of a file of any lines is right, and its text is read as it.
func TestReadRight(t *testing.T) {
	source := rand.New(rand.NewSource(3))
	l := strings.SplitAfter(wholeText, "\n")
	read := 0
	for range 5000 {
		var s strings.Builder
		for range source.Intn(3) {
			from := source.Intn(len(l))
			to := from + source.Intn(len(l)-from)
			for range 1 + source.Intn(40) {
				s.WriteString(strings.Join(l[from:to], ""))
			}
		}
		x, _, fail := iniread.Read(s.String())
		if !iniwrite.Right(x) {
			t.Fatalf("not right: %q: %v", s.String(), x)
		}
		if fail == api.OK && len(x.Peers) > 0 {
			read++
		}
		if text, fail := iniwrite.Text(x); fail == api.OK {
			if back, _, fail := iniread.Read(text); fail != api.OK || !iniwrite.Same(back, x) {
				t.Fatalf("Read(%q): %v, %v, not %v", text, back, fail, x)
			}
		} else if fail != api.ErrLong {
			t.Fatalf("Text(%v): %v", x, fail)
		}
	}
	if read < 100 {
		t.Errorf("%d read", read)
	}
}

// R2: what is handed in is not changed.
func TestAnew(t *testing.T) {
	x := whole()
	iniwrite.Text(x)
	iniwrite.Right(x)
	iniwrite.Same(x, whole())
	if !reflect.DeepEqual(x, whole()) {
		t.Errorf("handed in: %v", x)
	}
}

// The chapter's example.
func TestExample(t *testing.T) {
	if text, fail := iniwrite.Text(api.Ini{}); text != "[Interface]\n" || fail != api.OK {
		t.Errorf("Text: %q, %v", text, fail)
	}
}
