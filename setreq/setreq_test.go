package setreq_test

import (
	"math"
	"math/rand"
	"reflect"
	"strings"
	"testing"

	"crawlway/addr"
	"crawlway/api"
	"crawlway/change"
	"crawlway/cidr"
	"crawlway/field"
	"crawlway/pairline"
	"crawlway/setreq"
)

var (
	one, two = api.Key{31: 1}, api.Key{31: 2}
	four     = api.Endpoint{A: addr.Four([4]byte{192, 0, 2, 1}), Port: 9}
	six      = api.Endpoint{A: addr.Six([16]byte{32, 1, 15: 1}), Port: 65535}
)

// hex is a key's text, of all but whose last two digits are noughts.
func hex(last string) string { return strings.Repeat("0", 62) + last }

// block is a request's text of lines behind the first one.
func block(l ...string) string {
	return strings.Join(append([]string{"set=1"}, l...), "\n") + "\n\n"
}

// list are the prefixes of texts.
func list(texts ...string) []api.Prefix {
	var l []api.Prefix
	for _, s := range texts {
		p, _ := cidr.Parse(s)
		l = append(l, p)
	}
	return l
}

// many are so many prefixes.
func many(n int) []api.Prefix {
	var l []api.Prefix
	for i := range n {
		l = append(l, cidr.Whole(addr.Four([4]byte{10, 0, 0, byte(i)})))
	}
	return l
}

// peers are so many changes of peers.
func peers(n int) []api.PeerChange {
	var l []api.PeerChange
	for i := range n {
		l = append(l, api.PeerChange{Key: api.Key{9, byte(i)}})
	}
	return l
}

// whole is a request that says all that one can say.
func whole() api.Request {
	return api.Request{HasPrivate: true, Private: two, HasPort: true, Port: 51820, HasMark: true, Mark: math.MaxUint32, Replace: true, Peers: []api.PeerChange{
		{Key: one, Remove: true, Update: true, HasPsk: true, Psk: two, HasEnd: true, End: four, HasKeep: true, Keep: 25, Replace: true, Allowed: list("10.0.0.0/8", "::/0", "10.0.0.0/8")},
		{Key: two},
		{Key: one, HasPsk: true, HasEnd: true, End: six, HasKeep: true},
	}}
}

// wholeText is its text.
func wholeText() string {
	return block(
		"private_key="+hex("02"), "listen_port=51820", "fwmark=4294967295", "replace_peers=true",
		"public_key="+hex("01"), "remove=true", "update_only=true", "preshared_key="+hex("02"), "endpoint=192.0.2.1:9",
		"persistent_keepalive_interval=25", "replace_allowed_ips=true", "allowed_ip=10.0.0.0/8", "allowed_ip=::/0", "allowed_ip=10.0.0.0/8",
		"public_key="+hex("02"),
		"public_key="+hex("01"), "preshared_key="+hex("00"), "endpoint=[2001::1]:65535", "persistent_keepalive_interval=0",
	)
}

// P38.1, P38.2, P38.3: the text of all that can be said, and of each part alone.
func TestText(t *testing.T) {
	of := func(p api.PeerChange) api.Request {
		p.Key = one
		return api.Request{Peers: []api.PeerChange{p}}
	}
	for _, x := range []struct {
		r    api.Request
		text string
	}{
		{whole(), wholeText()},
		{api.Request{}, "set=1\n\n"},
		{api.Request{Peers: []api.PeerChange{}}, "set=1\n\n"},
		{api.Request{HasPrivate: true}, block("private_key=" + hex("00"))},
		{api.Request{HasPort: true}, block("listen_port=0")},
		{api.Request{HasPort: true, Port: 65535}, block("listen_port=65535")},
		{api.Request{HasMark: true}, block("fwmark=0")},
		{api.Request{Replace: true}, block("replace_peers=true")},
		{of(api.PeerChange{}), block("public_key=" + hex("01"))},
		{of(api.PeerChange{Remove: true}), block("public_key="+hex("01"), "remove=true")},
		{of(api.PeerChange{Update: true}), block("public_key="+hex("01"), "update_only=true")},
		{of(api.PeerChange{HasPsk: true}), block("public_key="+hex("01"), "preshared_key="+hex("00"))},
		{of(api.PeerChange{HasEnd: true, End: six}), block("public_key="+hex("01"), "endpoint=[2001::1]:65535")},
		{of(api.PeerChange{HasKeep: true}), block("public_key="+hex("01"), "persistent_keepalive_interval=0")},
		{of(api.PeerChange{HasKeep: true, Keep: 65535}), block("public_key="+hex("01"), "persistent_keepalive_interval=65535")},
		{of(api.PeerChange{Replace: true}), block("public_key="+hex("01"), "replace_allowed_ips=true")},
		{of(api.PeerChange{Allowed: list("::1", "10.0.0.0/8")}), block("public_key="+hex("01"), "allowed_ip=::1/128", "allowed_ip=10.0.0.0/8")},
	} {
		if text, fail := setreq.Text(x.r); text != x.text || fail != api.OK {
			t.Errorf("Text(%v): %s, %v, not %s", x.r, text, fail, x.text)
		}
		if r, fail := setreq.Parse(x.text); !change.Same(r, x.r) || fail != api.OK {
			t.Errorf("Parse(%s): %v, %v", x.text, r, fail)
		}
	}
}

// P38.1: of one that is not right, be it too long as well.
func TestTextWrong(t *testing.T) {
	long := api.Request{Peers: peers(64)}
	for i := range long.Peers {
		long.Peers[i].Allowed = many(64)
	}
	for name, does := range map[string]func(r *api.Request){
		"private": func(r *api.Request) { r.HasPrivate, r.Private = false, one },
		"port":    func(r *api.Request) { r.HasPort, r.Port = true, 65536 },
		"port -1": func(r *api.Request) { r.HasPort, r.Port = true, -1 },
		"mark":    func(r *api.Request) { r.HasMark, r.Mark = false, 1 },
		"key":     func(r *api.Request) { r.Peers[1].Key = api.Key{} },
		"end":     func(r *api.Request) { r.Peers[1].HasEnd = true },
		"prefix":  func(r *api.Request) { r.Peers[1].Allowed = []api.Prefix{{}} },
		"many":    func(r *api.Request) { r.Peers[1].Allowed = many(65) },
		"peers":   func(r *api.Request) { r.Peers = peers(65) },
	} {
		for _, of := range []api.Request{whole(), long} {
			r := of
			r.Peers = append([]api.PeerChange(nil), of.Peers...)
			does(&r)
			if text, fail := setreq.Text(r); text != "" || fail != api.ErrArg {
				t.Errorf("Text, %s: %s, %v", name, text, fail)
			}
		}
	}
	if text, fail := setreq.Text(long); text != "" || fail != api.ErrLong {
		t.Errorf("Text of a long one: %s, %v", text, fail)
	}
}

// P38.1: at most 400 pairs, the first one counted.
func TestTextLong(t *testing.T) {
	// One pair, 6 keys of 64 prefixes each, and 9 keys.
	r := api.Request{Peers: peers(15)}
	for i := range 6 {
		r.Peers[i].Allowed = many(64)
	}
	text, fail := setreq.Text(r)
	if fail != api.OK || strings.Count(text, "\n") != 401 {
		t.Errorf("Text of 400 pairs: %d lines, %v", strings.Count(text, "\n"), fail)
	}
	if back, fail := setreq.Parse(text); fail != api.OK || !change.Same(back, r) {
		t.Errorf("Parse of 400 pairs: %v", fail)
	}
	r.Replace = true
	if text, fail := setreq.Text(r); text != "" || fail != api.ErrLong {
		t.Errorf("Text of 401 pairs: %s, %v", text, fail)
	}
}

// fails asks for a text that is no request's.
func fails(t *testing.T, s string, want api.Errno) {
	t.Helper()
	if r, fail := setreq.Parse(s); !reflect.DeepEqual(r, api.Request{}) || fail != want {
		t.Errorf("Parse(%.200q): %v, %v, not %v", s, r, fail, want)
	}
}

// P38.2: what is no block, and what does not begin as a request.
func TestParseFront(t *testing.T) {
	for s, want := range map[string]api.Errno{
		"":                         api.ErrForm,
		"\n":                       api.ErrForm,
		"set=1":                    api.ErrForm,
		"set=1\n":                  api.ErrForm,
		"set=1\n\n\n":              api.ErrForm,
		"\nset=1\n\n":              api.ErrForm,
		"set\n\n":                  api.ErrForm,
		"=1\n\n":                   api.ErrForm,
		"set=\n\n":                 api.ErrForm,
		"set=0\n\n":                api.ErrForm,
		"set=2\n\n":                api.ErrForm,
		"set=01\n\n":               api.ErrForm,
		"set=1 \n\n":               api.ErrForm,
		"Set=1\n\n":                api.ErrForm,
		"get=1\n\n":                api.ErrForm,
		"listen_port=1\n\n":        api.ErrForm,
		"listen_port=1\nset=1\n\n": api.ErrForm,
		"nope=1\n\n":               api.ErrForm,
		block("remove"):            api.ErrForm,
		block("nope=1", "remove"):  api.ErrForm,
		block("nope=" + strings.Repeat("x", 508)):             api.ErrLong,
		"get=1\nx=" + strings.Repeat("x", 511) + "\n\n":       api.ErrLong,
		"get=1\n" + strings.Repeat("set=1\n", 400) + "\n":     api.ErrLong,
		block(strings.Repeat("fwmark=0\n", 399) + "fwmark=0"): api.ErrLong,
	} {
		fails(t, s, want)
	}
}

// P38.2: which words may stand where, and that the first wrong one tells.
func TestParseWords(t *testing.T) {
	values := map[int]string{
		1: hex("01"), 2: "1", 3: "1", 4: "true", 5: hex("02"), 6: "true", 7: "true", 8: hex("01"), 9: "192.0.2.1:9",
		10: "1", 11: "true", 12: "::/0", 13: "1", 14: "1", 15: "1", 16: "1",
	}
	for word := 1; word <= api.Words; word++ {
		line := field.Name(word) + "=" + values[word]
		ahead, behind := word <= 5, word >= 5 && word <= 13
		for _, x := range []struct {
			s   string
			may bool
		}{
			{block(line), ahead},
			{block("fwmark=1", line, "fwmark=2"), word <= 4},
			{block("public_key="+hex("01"), line), behind},
			{block("public_key="+hex("01"), "remove=true", "public_key="+hex("01"), line), behind},
		} {
			if x.may {
				if _, fail := setreq.Parse(x.s); fail != api.OK {
					t.Errorf("Parse(%q): %v", x.s, fail)
				}
				continue
			}
			fails(t, x.s, api.ErrWord)
		}
		// A value that can not be read tells ahead of the word that may not stand there.
		fails(t, block(field.Name(word)+"=x"), api.ErrForm)
		fails(t, block("public_key="+hex("01"), field.Name(word)+"=x"), api.ErrForm)
	}
	for _, line := range []string{"nope=1", "set=1", "get=1", "Fwmark=1", "fwmark =1"} {
		fails(t, block(line), api.ErrWord)
		fails(t, block("public_key="+hex("01"), line), api.ErrWord)
	}
}

// P38.2: what is wrong first tells, and of one pair that which is named first.
func TestParseFirst(t *testing.T) {
	for s, want := range map[string]api.Errno{
		block("listen_port=x", "nope=1"):                                       api.ErrForm,
		block("nope=1", "listen_port=x"):                                       api.ErrWord,
		block("listen_port=65536", "nope=1"):                                   api.ErrRange,
		block("remove=true", "public_key="+hex("00")):                          api.ErrWord,
		block("public_key="+hex("00"), "errno=1"):                              api.ErrZero,
		block("public_key="+hex("01"), "public_key="+hex("00")):                api.ErrZero,
		block("public_key="+hex("01"), "fwmark=1", "remove=x"):                 api.ErrWord,
		block("public_key="+hex("0"), "fwmark=1"):                              api.ErrForm,
		block("public_key="+hex(""), "fwmark=1"):                               api.ErrShort,
		block("public_key="+hex("0000"), "fwmark=1"):                           api.ErrLong,
		block("public_key="+hex("01"), "remove=false"):                         api.ErrForm,
		block("public_key="+hex("01"), "allowed_ip=10.0.0.0/33"):               api.ErrRange,
		block("public_key="+hex("01"), "protocol_version=0"):                   api.ErrRange,
		block("public_key="+hex("01"), "protocol_version=2"):                   api.ErrRange,
		block("public_key="+hex("01"), "endpoint=", "remove=true"):             api.ErrForm,
		block("public_key="+hex("01"), "endpoint=1.2.3.4:0"):                   api.ErrRange,
		block("public_key="+hex("01"), "persistent_keepalive_interval=off"):    api.ErrForm,
		block("public_key="+hex("01"), "persistent_keepalive_interval=65536"):  api.ErrRange,
		block("public_key="+hex("01"), "preshared_key=", "allowed_ip=nowhere"): api.ErrShort,
	} {
		fails(t, s, want)
	}
}

// P38.2: the 65th peer's change, and the 65th prefix of one.
func TestParseFull(t *testing.T) {
	var keys, prefixes []string
	for i := range 64 {
		keys = append(keys, "public_key="+hex([]string{"01", "02"}[i%2]))
		prefixes = append(prefixes, "allowed_ip=::/0")
	}
	r, fail := setreq.Parse(block(append(keys, prefixes...)...))
	if fail != api.OK || len(r.Peers) != 64 || len(r.Peers[63].Allowed) != 64 || r.Peers[1].Key != two || len(r.Peers[0].Allowed) != 0 {
		t.Errorf("Parse of 64: %v, %v", r, fail)
	}
	fails(t, block(append(keys, keys[0])...), api.ErrFull)
	fails(t, block(append(append(keys, keys[0]), "nope=1")...), api.ErrFull)
	fails(t, block(append(keys, "public_key="+hex("00"))...), api.ErrZero)
	fails(t, block(append(keys, "public_key="+hex(""))...), api.ErrShort)
	full := append([]string{keys[0]}, prefixes...)
	fails(t, block(append(full, "allowed_ip=10.0.0.0/8")...), api.ErrFull)
	fails(t, block(append(full, "allowed_ip=10.0.0.0/33")...), api.ErrRange)
	two := append(append(full, "remove=true", keys[0]), prefixes...)
	if r, fail := setreq.Parse(block(two...)); fail != api.OK || len(r.Peers) != 2 || len(r.Peers[0].Allowed) != 64 || len(r.Peers[1].Allowed) != 64 {
		t.Errorf("Parse of twice 64: %v, %v", r, fail)
	}
}

// P38.2: of what stands there more than once the last one counts; prefixes all count, in order.
func TestParseTwice(t *testing.T) {
	s := block("private_key="+hex("01"), "fwmark=3", "listen_port=1", "replace_peers=true", "listen_port=2", "private_key="+hex("00"), "fwmark=0", "replace_peers=true",
		"public_key="+hex("01"), "allowed_ip=::/0", "endpoint=192.0.2.1:8", "persistent_keepalive_interval=1", "preshared_key="+hex("01"), "protocol_version=1",
		"allowed_ip=10.1.2.3/8", "remove=true", "endpoint=[2001:0:0::1]:65535", "preshared_key="+hex("02"), "persistent_keepalive_interval=0", "allowed_ip=::/0", "remove=true", "protocol_version=1",
		"public_key="+hex("01"), "endpoint=192.0.2.1:9")
	want := api.Request{HasPrivate: true, HasPort: true, Port: 2, HasMark: true, Replace: true, Peers: []api.PeerChange{
		{Key: one, Remove: true, HasEnd: true, End: six, HasPsk: true, Psk: two, HasKeep: true, Allowed: list("::/0", "10.0.0.0/8", "::/0")},
		{Key: one, HasEnd: true, End: four},
	}}
	if r, fail := setreq.Parse(s); fail != api.OK || !change.Same(r, want) {
		t.Errorf("Parse: %v, %v, not %v", r, fail, want)
	}
}

// anyLine is some line, now and then a wrong one.
func anyLine(source *rand.Rand) string {
	word := 1 + source.Intn(13)
	if source.Intn(9) == 0 {
		word = 1 + source.Intn(17)
	}
	values := []string{"", "1", "true", hex("00"), hex("01"), hex("02"), "0", "10.0.0.0/8", "192.0.2.1:9", "::1/128", "[2001::1]:65535"}
	value := values[source.Intn(len(values))]
	for tries := 0; tries < 20; tries++ {
		if _, fail := field.Read(pairline.Pair{Key: field.Name(word), Value: value}); fail == api.OK {
			break
		}
		value = values[source.Intn(len(values))]
	}
	if word > api.Words {
		return "nope=" + value
	}
	return field.Name(word) + "=" + value
}

// P38.3: what is parsed is right, and its text is parsed as it; P38.2: as much as the words say, of lines of any order.
func TestFollows(t *testing.T) {
	source := rand.New(rand.NewSource(38))
	parsed := 0
	for range 20000 {
		var l []string
		for range source.Intn(5) {
			l = append(l, anyLine(source))
		}
		s := block(l...)
		r, fail := setreq.Parse(s)
		if want, wantFail := plain(l); fail != wantFail || !change.Same(r, want) {
			t.Fatalf("Parse(%q): %v, %v, not %v, %v", s, r, fail, want, wantFail)
		}
		if fail != api.OK {
			continue
		}
		parsed++
		text, fail := setreq.Text(r)
		if back, again := setreq.Parse(text); !change.Right(r) || fail != api.OK || again != api.OK || !change.Same(back, r) {
			t.Fatalf("Text(%v): %q, %v, which is %v, %v", r, text, fail, back, again)
		}
	}
	if parsed < 1000 {
		t.Errorf("%d parsed", parsed)
	}
}

// plain is what lines behind the first one say, told by their names alone.
func plain(l []string) (api.Request, api.Errno) {
	var r api.Request
	var p *api.PeerChange
	for _, line := range l {
		name, value, _ := strings.Cut(line, "=")
		f, fail := field.Read(pairline.Pair{Key: name, Value: value})
		if fail != api.OK {
			return api.Request{}, fail
		}
		switch at := p != nil; {
		case name == "public_key" && f.Key == api.Key{}:
			return api.Request{}, api.ErrZero
		case name == "public_key":
			r.Peers = append(r.Peers, api.PeerChange{Key: f.Key})
			p = &r.Peers[len(r.Peers)-1]
		case !at && name == "private_key":
			r.HasPrivate, r.Private = true, f.Key
		case !at && name == "listen_port":
			r.HasPort, r.Port = true, int(f.N)
		case !at && name == "fwmark":
			r.HasMark, r.Mark = true, uint32(f.N)
		case !at && name == "replace_peers":
			r.Replace = true
		case at && name == "remove":
			p.Remove = true
		case at && name == "update_only":
			p.Update = true
		case at && name == "preshared_key":
			p.HasPsk, p.Psk = true, f.Key
		case at && name == "endpoint":
			p.HasEnd, p.End = true, f.End
		case at && name == "persistent_keepalive_interval":
			p.HasKeep, p.Keep = true, int(f.N)
		case at && name == "replace_allowed_ips":
			p.Replace = true
		case at && name == "allowed_ip":
			p.Allowed = append(p.Allowed, f.P)
		case at && name == "protocol_version":
		default:
			return api.Request{}, api.ErrWord
		}
	}
	return r, api.OK
}

// P1: at bytes of any kind it ends.
func TestEnds(t *testing.T) {
	source := rand.New(rand.NewSource(38))
	for range 20000 {
		b := []byte(wholeText())
		for range 1 + source.Intn(3) {
			b[source.Intn(len(b))] = "\n=0a:/.\xff"[source.Intn(8)]
		}
		r, fail := setreq.Parse(string(b))
		if fail == api.OK && !change.Right(r) || fail != api.OK && !reflect.DeepEqual(r, api.Request{}) {
			t.Fatalf("Parse(%q): %v, %v", b, r, fail)
		}
	}
}

// R2: what is answered shares nothing with what was handed in, which is not changed.
func TestAnew(t *testing.T) {
	r := whole()
	setreq.Text(r)
	if !reflect.DeepEqual(r, whole()) {
		t.Errorf("handed in: %v", r)
	}
	first, _ := setreq.Parse(wholeText())
	first.Peers[0].Allowed[0], first.Peers[1] = api.Prefix{}, api.PeerChange{}
	if again, _ := setreq.Parse(wholeText()); !change.Same(again, whole()) {
		t.Errorf("Parse: %v", again)
	}
}

// The chapter's example.
func TestExample(t *testing.T) {
	if r, fail := setreq.Parse("set=1\n\n"); fail != api.OK || !reflect.DeepEqual(r, api.Request{}) {
		t.Errorf("Parse: %v, %v", r, fail)
	}
}
