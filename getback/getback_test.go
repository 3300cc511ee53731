package getback_test

import (
	"math"
	"math/rand"
	"reflect"
	"slices"
	"strings"
	"testing"

	"crawlway/addr"
	"crawlway/api"
	"crawlway/cidr"
	"crawlway/getback"
	"crawlway/getres"
	"crawlway/view"
)

var (
	one, two, three = api.Key{1}, api.Key{31: 1}, api.Key{0xaf, 31: 3}
	four            = api.Endpoint{A: addr.Four([4]byte{192, 0, 2, 1}), Port: 9}
	six             = api.Endpoint{A: addr.Six([16]byte{32, 1, 15: 1}), Port: 65535}
)

// list are the prefixes of texts.
func list(texts ...string) []api.Prefix {
	var l []api.Prefix
	for _, s := range texts {
		p, _ := cidr.Parse(s)
		l = append(l, p)
	}
	return l
}

// many are so many prefixes, in order.
func many(from, to int) []api.Prefix {
	var l []api.Prefix
	for i := from; i < to; i++ {
		l = append(l, cidr.Whole(addr.Four([4]byte{10, 0, 0, byte(i)})))
	}
	return l
}

// whole is a configuration that has all that one can have.
func whole() api.Conf {
	return api.Conf{Private: three, Port: 51820, Mark: math.MaxUint32, Peers: []api.Peer{
		{Key: two, Psk: three, End: four, Keep: 25, Sent: 5, Got: 6, Allowed: list("10.0.0.0/8", "10.0.0.0/9", "::/0")},
		{Key: one},
		{Key: three, End: six, Keep: 65535, Got: math.MaxUint64, Allowed: list("0.0.0.0/0")},
	}}
}

// of is the text of a right configuration.
func of(t *testing.T, c api.Conf) string {
	t.Helper()
	text, fail := getres.Text(c)
	if fail != api.OK {
		t.Fatalf("Text(%v): %v", c, fail)
	}
	return text
}

// fails asks for a text that is no right configuration's.
func fails(t *testing.T, name, s string) {
	t.Helper()
	if c, fail := getback.Parse(s); !reflect.DeepEqual(c, api.Conf{}) || fail != api.ErrForm {
		t.Errorf("Parse, %s: %v, %v", name, c, fail)
	}
}

// P40.1: the configuration of each right one's text.
func TestParse(t *testing.T) {
	full := api.Conf{Port: 1}
	for i := range 16 {
		full.Peers = append(full.Peers, api.Peer{Key: api.Key{9, byte(i)}, End: six, Sent: math.MaxUint64, Allowed: many(4*i, 4*i+4)})
	}
	for _, c := range []api.Conf{{}, whole(), full, {Peers: []api.Peer{{Key: one, Allowed: many(0, 64)}}}, {Mark: 1}, {Private: one}} {
		if got, fail := getback.Parse(of(t, c)); fail != api.OK || !view.Same(got, c) {
			t.Errorf("Parse: %v, %v, not %v", got, fail, c)
		}
	}
}

// P40.1: texts that say the same, or nearly so, in another form.
func TestParseForm(t *testing.T) {
	text := of(t, whole())
	for _, x := range []struct{ from, to string }{
		{"[2001::1]", "[2001:0::1]"},
		{"[2001::1]", "[2001::0.0.0.1]"},
		{"::/0", "0::/0"},
		{"::/0", "::1/0"},
		{"10.0.0.0/9", "10.1.0.0/9"},
		{"0.0.0.0/0", "1.0.0.0/0"},
		{"allowed_ip=::/0", "allowed_ip=::"},
		{"listen_port=51820", "listen_port=051820"},
		{"listen_port=51820", "listen_port=65536"},
		{"fwmark=4294967295", "fwmark=0xffffffff"},
		{"protocol_version=1", "protocol_version=0"},
		{"protocol_version=1", "protocol_version=2"},
		{"errno=0", "errno=1"},
		{"errno=0", "errno=00"},
		{"errno=0\n", ""},
		{"errno=0\n", "errno=0\nerrno=0\n"},
		{"errno=0\n", "errno=0\nfwmark=0\n"},
		{"errno=0\n", "errno=0\npublic_key=" + strings.Repeat("1", 64) + "\n"},
		{"errno=0\n\n", "errno=0\n"},
		{"errno=0\n\n", "errno=0"},
		{"errno=0\n\n", "errno=0\n\n\n"},
		{"errno=0\n\n", "errno=0\n\n" + text},
		{"errno=0\n", "errno=0\n \n"},
		{"private_key=", "set=1\nprivate_key="},
		{"private_key=", "get=1\nprivate_key="},
		{"private_key=", "errno=0\nprivate_key="},
		{"private_key=", "\nprivate_key="},
		{"private_key=", "private_key ="},
		{"private_key=af", "private_key=f"},
		{"fwmark=", "replace_peers=true\nfwmark="},
		{"tx_bytes=5\n", "update_only=true\ntx_bytes=5\n"},
		{"tx_bytes=5\n", "remove=true\ntx_bytes=5\n"},
		{"tx_bytes=5\n", "replace_allowed_ips=true\ntx_bytes=5\n"},
		{"tx_bytes=5\n", "tx_bytes=5\nlisten_port=51820\n"},
		{"tx_bytes=5\nrx_bytes=6\n", "rx_bytes=6\ntx_bytes=5\n"},
		{"tx_bytes=5\n", "tx_bytes=4\ntx_bytes=5\n"},
		{"tx_bytes=5\n", "tx_bytes=5\ntx_bytes=5\n"},
		{"tx_bytes=5\n", ""},
		{"tx_bytes=5\n", "tx_bytes=\n"},
		{"tx_bytes=0\n", ""},
		{"persistent_keepalive_interval=0\n", ""},
		{"persistent_keepalive_interval=25\n", "persistent_keepalive_interval=65536\n"},
		{"endpoint=192.0.2.1:9\n", "endpoint=192.0.2.1:0\n"},
		{"endpoint=192.0.2.1:9\n", "endpoint=192.0.2.1:09\n"},
		{"endpoint=192.0.2.1:9\n", "endpoint=\n"},
		{"endpoint=192.0.2.1:9\n", "endpoint=192.0.2.2:9\nendpoint=192.0.2.1:9\n"},
		{"allowed_ip=10.0.0.0/8\nallowed_ip=10.0.0.0/9\n", "allowed_ip=10.0.0.0/9\nallowed_ip=10.0.0.0/8\n"},
		{"allowed_ip=10.0.0.0/8\n", "allowed_ip=10.0.0.0/8\nallowed_ip=10.0.0.0/8\n"},
		{"allowed_ip=0.0.0.0/0\n", "allowed_ip=10.0.0.0/8\n"},
		{"private_key=af", "private_key=AF"},
		{"\n", "\r\n"},
	} {
		s := strings.Replace(text, x.from, x.to, 1)
		if s == text {
			t.Errorf("%q is not there", x.from)
		}
		fails(t, x.from+" as "+x.to, s)
	}
}

// P40.1: what is not even a block, or has too little or too much.
func TestParseWrong(t *testing.T) {
	text := of(t, api.Conf{})
	peers := api.Conf{}
	for i := range 16 {
		peers.Peers = append(peers.Peers, api.Peer{Key: api.Key{9, byte(i)}})
	}
	more := of(t, api.Conf{Peers: []api.Peer{{Key: one}}})
	more = more[len(text)-len("errno=0\n\n"):]
	for name, s := range map[string]string{
		"nothing":        "",
		"no lines":       "\n",
		"errno alone":    "errno=0\n\n",
		"a refusal":      getres.Refusal(api.ErrFull),
		"no errno":       strings.TrimSuffix(text, "errno=0\n\n") + "\n",
		"17 peers":       strings.TrimSuffix(of(t, peers), "errno=0\n\n") + more,
		"a peer twice":   strings.TrimSuffix(of(t, api.Conf{Peers: []api.Peer{{Key: one}}}), "errno=0\n\n") + more,
		"65 prefixes":    strings.Replace(of(t, api.Conf{Peers: []api.Peer{{Key: one, Allowed: many(1, 65)}}}), "allowed_ip=", "allowed_ip=10.0.0.0/32\nallowed_ip=", 1),
		"a zero key":     strings.Replace(of(t, api.Conf{Peers: []api.Peer{{Key: one}}}), "public_key=01", "public_key=00", 1),
		"a long line":    strings.Replace(text, "fwmark=0", "fwmark="+strings.Repeat("0", 600), 1),
		"too many lines": strings.Repeat("fwmark=0\n", 401) + text,
		"a request":      "set=1\n\n",
		"no device":      more,
		"peer's words":   "protocol_version=1\n" + text,
	} {
		fails(t, name, s)
	}
	if _, fail := getback.Parse(strings.TrimSuffix(text, "errno=0\n\n") + more); fail != api.OK {
		t.Errorf("Parse of one more: %v", fail)
	}
}

// anyConf is some right configuration.
func anyConf(source *rand.Rand) api.Conf {
	var c api.Conf
	source.Read(c.Private[:])
	c.Port, c.Mark = source.Intn(65536), source.Uint32()
	taken := 0
	for i := range source.Intn(5) {
		p := api.Peer{Key: api.Key{1, byte(i)}, Keep: source.Intn(65536), Sent: source.Uint64() >> source.Intn(64), Got: source.Uint64() >> source.Intn(64)}
		source.Read(p.Psk[:])
		p.End = []api.Endpoint{{}, four, six}[source.Intn(3)]
		more := source.Intn(4)
		p.Allowed = many(taken, taken+more)
		taken += more
		c.Peers = append(c.Peers, p)
	}
	return c
}

// bent is a text, of which lines go, come twice or stand elsewhere, or bytes are others.
func bent(source *rand.Rand, text string) string {
	l := strings.SplitAfter(text, "\n")
	at, to := source.Intn(len(l)), source.Intn(len(l))
	switch source.Intn(5) {
	case 0:
		l = slices.Delete(l, at, at+1)
	case 1:
		l = slices.Insert(l, to, l[at])
	case 2:
		l[at], l[to] = l[to], l[at]
	default:
		b := []byte(text)
		b[source.Intn(len(b))] = "\n=019a:/._\xff"[source.Intn(11)]
		return string(b)
	}
	return strings.Join(l, "")
}

// P40.1, P40.2: a right one's text is parsed as it, and what is parsed has just that text.
func TestFollows(t *testing.T) {
	source := rand.New(rand.NewSource(40))
	parsed := 0
	for range 2000 {
		c := anyConf(source)
		text := of(t, c)
		if got, fail := getback.Parse(text); fail != api.OK || !view.Same(got, c) {
			t.Fatalf("Parse(%q): %v, %v, not %v", text, got, fail, c)
		}
		for range 4 {
			s := bent(source, text)
			got, fail := getback.Parse(s)
			if fail != api.OK {
				fails(t, "bent", s)
				continue
			}
			if again, fail := getres.Text(got); fail != api.OK || again != s || (s != text) == view.Same(got, c) {
				t.Fatalf("Parse(%q): %v", s, got)
			}
			if s != text {
				parsed++
			}
		}
	}
	if parsed < 100 {
		t.Errorf("%d parsed", parsed)
	}
}

// R2: what is answered is new.
func TestAnew(t *testing.T) {
	text := of(t, whole())
	first, _ := getback.Parse(text)
	first.Peers[0].Allowed[0], first.Peers[1] = api.Prefix{}, api.Peer{}
	if again, _ := getback.Parse(text); !view.Same(again, whole()) {
		t.Errorf("Parse: %v", again)
	}
}

// The chapter's example.
func TestExample(t *testing.T) {
	text := of(t, api.Conf{Peers: []api.Peer{{Key: one, End: api.Endpoint{A: addr.Six([16]byte{15: 1}), Port: 5}}}})
	if !strings.Contains(text, "endpoint=[::1]:5\n") {
		t.Errorf("Text: %s", text)
	}
	fails(t, "another form", strings.Replace(text, "[::1]", "[0::1]", 1))
}
