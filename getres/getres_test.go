package getres_test

import (
	"math"
	"math/rand"
	"reflect"
	"strconv"
	"strings"
	"testing"

	"crawlway/addr"
	"crawlway/api"
	"crawlway/cidr"
	"crawlway/getres"
	"crawlway/view"
)

var (
	one, two, three = api.Key{1}, api.Key{31: 1}, api.Key{3, 31: 3}
	four            = api.Endpoint{A: addr.Four([4]byte{192, 0, 2, 1}), Port: 9}
	six             = api.Endpoint{A: addr.Six([16]byte{32, 1, 15: 1}), Port: 65535}
	noughts         = strings.Repeat("0", 60)
)

// list are the prefixes of texts.
func list(texts ...string) []api.Prefix {
	var l []api.Prefix
	for _, s := range texts {
		p, _ := cidr.Parse(s)
		l = append(l, p)
	}
	return l
}

// many are so many prefixes, in order.
func many(from, to int) []api.Prefix {
	var l []api.Prefix
	for i := from; i < to; i++ {
		l = append(l, cidr.Whole(addr.Four([4]byte{10, 0, 0, byte(i)})))
	}
	return l
}

// whole is a configuration that has all that one can have.
func whole() api.Conf {
	return api.Conf{Private: three, Port: 51820, Mark: math.MaxUint32, Peers: []api.Peer{
		{Key: two, Psk: three, End: four, Keep: 25, Sent: 5, Got: 6, Allowed: list("10.0.0.0/8", "10.0.0.0/9", "::/0")},
		{Key: one},
		{Key: three, End: six, Keep: 65535, Got: math.MaxUint64, Allowed: list("0.0.0.0/0")},
	}}
}

// wholeText is its text.
func wholeText() string {
	return "private_key=0300" + noughts[4:] + "0003\nlisten_port=51820\nfwmark=4294967295\n" +
		"public_key=0000" + noughts[4:] + "0001\npreshared_key=0300" + noughts[4:] + "0003\nprotocol_version=1\nendpoint=192.0.2.1:9\ntx_bytes=5\nrx_bytes=6\n" +
		"persistent_keepalive_interval=25\nallowed_ip=10.0.0.0/8\nallowed_ip=10.0.0.0/9\nallowed_ip=::/0\n" +
		"public_key=0100" + noughts + "\npreshared_key=0000" + noughts + "\nprotocol_version=1\ntx_bytes=0\nrx_bytes=0\npersistent_keepalive_interval=0\n" +
		"public_key=0300" + noughts[4:] + "0003\npreshared_key=0000" + noughts + "\nprotocol_version=1\nendpoint=[2001::1]:65535\ntx_bytes=0\nrx_bytes=18446744073709551615\n" +
		"persistent_keepalive_interval=65535\nallowed_ip=0.0.0.0/0\nerrno=0\n\n"
}

// P39.1: the text of a right one, line by line.
func TestText(t *testing.T) {
	zero := "private_key=0000" + noughts + "\nlisten_port=0\nfwmark=0\n"
	for _, x := range []struct {
		name string
		c    api.Conf
		text string
	}{
		{"all", whole(), wholeText()},
		{"nothing", api.Conf{}, zero + "errno=0\n\n"},
		{"no peers", api.Conf{Peers: []api.Peer{}}, zero + "errno=0\n\n"},
		{"no prefixes", api.Conf{Peers: []api.Peer{{Key: one, Allowed: []api.Prefix{}}}}, zero + "public_key=0100" + noughts + "\npreshared_key=0000" + noughts + "\nprotocol_version=1\ntx_bytes=0\nrx_bytes=0\npersistent_keepalive_interval=0\nerrno=0\n\n"},
	} {
		if text, fail := getres.Text(x.c); text != x.text || fail != api.OK {
			t.Errorf("Text, %s: %s, %v, not %s", x.name, text, fail, x.text)
		}
	}
}

// P39.1: the most that there can be has a text, too.
func TestTextFull(t *testing.T) {
	var c api.Conf
	for i := range 16 {
		c.Peers = append(c.Peers, api.Peer{Key: api.Key{9, byte(i)}, End: six, Sent: math.MaxUint64, Allowed: many(4*i, 4*i+4)})
	}
	text, fail := getres.Text(c)
	if fail != api.OK || strings.Count(text, "\n") != 3+16*7+64+1+1 || strings.Count(text, "allowed_ip=") != 64 {
		t.Errorf("Text: %s, %v", text, fail)
	}
}

// P39.1: of one that is not right.
func TestTextWrong(t *testing.T) {
	for name, does := range map[string]func(c *api.Conf){
		"port":      func(c *api.Conf) { c.Port = 65536 },
		"port -1":   func(c *api.Conf) { c.Port = -1 },
		"zero key":  func(c *api.Conf) { c.Peers[0].Key = api.Key{} },
		"key twice": func(c *api.Conf) { c.Peers[2].Key = two },
		"end":       func(c *api.Conf) { c.Peers[0].End.Port = 0 },
		"keep":      func(c *api.Conf) { c.Peers[0].Keep = -1 },
		"prefix":    func(c *api.Conf) { c.Peers[0].Allowed[0].Bits = 3 },
		"order":     func(c *api.Conf) { c.Peers[0].Allowed = list("::/0", "10.0.0.0/8") },
		"of two":    func(c *api.Conf) { c.Peers[1].Allowed = list("::/0") },
		"many":      func(c *api.Conf) { c.Peers[1].Allowed = many(0, 61) },
		"17 peers":  func(c *api.Conf) { c.Peers = make([]api.Peer, 17) },
	} {
		c := whole()
		does(&c)
		if text, fail := getres.Text(c); text != "" || fail != api.ErrArg {
			t.Errorf("Text, %s: %s, %v", name, text, fail)
		}
	}
}

// P39.2: each error's own number, and that of ErrArg of what is no error.
func TestRefusal(t *testing.T) {
	for e := api.OK; e <= api.ErrAway; e++ {
		if got := getres.Refusal(e); got != "errno="+strconv.Itoa(int(e))+"\n\n" {
			t.Errorf("Refusal(%d): %q", e, got)
		}
	}
	for _, e := range []api.Errno{-1, 21, 22, 99, 1 << 40, math.MinInt, math.MaxInt} {
		if got := getres.Refusal(e); got != "errno=1\n\n" {
			t.Errorf("Refusal(%d): %q", e, got)
		}
	}
}

// anyConf is some right configuration of few values.
func anyConf(source *rand.Rand) api.Conf {
	c := api.Conf{Private: api.Key{byte(source.Intn(2))}, Port: source.Intn(2), Mark: uint32(source.Intn(2))}
	taken := 0
	for _, i := range source.Perm(3)[:source.Intn(3)] {
		p := api.Peer{Key: api.Key{1, byte(i)}, Psk: api.Key{31: byte(source.Intn(2))}, Keep: source.Intn(2), Sent: uint64(source.Intn(2)), Got: uint64(source.Intn(2))}
		p.End = []api.Endpoint{{}, four, six}[source.Intn(3)]
		more := source.Intn(3)
		p.Allowed = many(taken, taken+more)
		taken += more
		c.Peers = append(c.Peers, p)
	}
	return c
}

// P39.3: no two right ones have one text.
func TestFollows(t *testing.T) {
	source := rand.New(rand.NewSource(39))
	of := map[string]api.Conf{}
	twice := 0
	for range 5000 {
		c := anyConf(source)
		text, fail := getres.Text(c)
		if fail != api.OK {
			t.Fatalf("Text(%v): %v", c, fail)
		}
		other, there := of[text]
		if there && !view.Same(other, c) {
			t.Fatalf("%v and %v: %s", other, c, text)
		}
		if there {
			twice++
		}
		of[text] = c
	}
	if twice < 100 || len(of) < 1000 {
		t.Errorf("%d texts, %d twice", len(of), twice)
	}
}

// P39.3: what makes a configuration another one makes its text another one.
func TestApart(t *testing.T) {
	for name, does := range map[string]func(c *api.Conf){
		"private":        func(c *api.Conf) { c.Private[31]++ },
		"port":           func(c *api.Conf) { c.Port++ },
		"mark":           func(c *api.Conf) { c.Mark++ },
		"fewer peers":    func(c *api.Conf) { c.Peers = c.Peers[:2] },
		"order of peers": func(c *api.Conf) { c.Peers[0], c.Peers[1] = c.Peers[1], c.Peers[0] },
		"key":            func(c *api.Conf) { c.Peers[0].Key[0]++ },
		"psk":            func(c *api.Conf) { c.Peers[0].Psk[31]++ },
		"end":            func(c *api.Conf) { c.Peers[0].End = six },
		"no end":         func(c *api.Conf) { c.Peers[0].End = api.Endpoint{} },
		"keep":           func(c *api.Conf) { c.Peers[0].Keep++ },
		"sent":           func(c *api.Conf) { c.Peers[0].Sent++ },
		"got":            func(c *api.Conf) { c.Peers[2].Got-- },
		"sent for got":   func(c *api.Conf) { c.Peers[0].Sent, c.Peers[0].Got = 6, 5 },
		"fewer prefixes": func(c *api.Conf) { c.Peers[0].Allowed = c.Peers[0].Allowed[:2] },
		"prefix":         func(c *api.Conf) { c.Peers[0].Allowed[0].Bits-- },
		"another's":      func(c *api.Conf) { c.Peers[1].Allowed, c.Peers[2].Allowed = c.Peers[2].Allowed, nil },
	} {
		c := whole()
		does(&c)
		if text, fail := getres.Text(c); text == wholeText() || fail != api.OK {
			t.Errorf("Text, %s: %s, %v", name, text, fail)
		}
	}
}

// R2: what is handed in is not changed.
func TestAnew(t *testing.T) {
	c := whole()
	getres.Text(c)
	if !reflect.DeepEqual(c, whole()) {
		t.Errorf("handed in: %v", c)
	}
}

// The chapter's example.
func TestExample(t *testing.T) {
	text, fail := getres.Text(api.Conf{})
	if l := strings.Split(text, "\n"); fail != api.OK || len(l) != 6 || l[4] != "" || l[5] != "" || l[3] != "errno=0" {
		t.Errorf("Text: %q, %v", text, fail)
	}
}
