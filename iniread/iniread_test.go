package iniread_test

import (
	"math"
	"math/rand"
	"reflect"
	"strconv"
	"strings"
	"testing"

	"crawlway/addr"
	"crawlway/api"
	"crawlway/cidr"
	"crawlway/hostport"
	"crawlway/iniread"
	"crawlway/iniwrite"
	"crawlway/keys"
)

var (
	one, two = api.Key{1}, api.Key{31: 2}
	four     = api.Endpoint{A: addr.Four([4]byte{192, 0, 2, 1}), Port: 9}
	six      = api.Endpoint{A: addr.Six([16]byte{32, 1, 15: 1}), Port: 65535}
	zero     = strings.Repeat("A", 43) + "="
	peer     = "[Peer]\nPublicKey = " + keys.Text(one)
)

// list are the prefixes of texts.
func list(texts ...string) []api.Prefix {
	var l []api.Prefix
	for _, s := range texts {
		p, _ := cidr.Parse(s)
		l = append(l, p)
	}
	return l
}

// says asks for what a file says with which nothing is wrong.
func says(t *testing.T, s string, want api.Ini) {
	t.Helper()
	if got, line, fail := iniread.Read(s); !iniwrite.Same(got, want) || line != 0 || fail != api.OK {
		t.Errorf("Read(%.300q): %v, %d, %v, not %v", s, got, line, fail, want)
	}
}

// fails asks for what is told of a file with which something is wrong.
func fails(t *testing.T, s string, line int, want api.Errno) {
	t.Helper()
	if got, at, fail := iniread.Read(s); !reflect.DeepEqual(got, api.Ini{}) || at != line || fail != want {
		t.Errorf("Read(%.300q): %v, %d, %v, not %d, %v", s, got, at, fail, line, want)
	}
}

// P43.1: all that a file can say, in whatever form.
func TestRead(t *testing.T) {
	says(t, strings.Join([]string{
		"# a device", "[Interface]", "PrivateKey = " + keys.Text(two), "ListenPort = 51820 # its port", "FwMark = 4294967295", "",
		"[Peer]", "PublicKey = " + keys.Text(one), "PresharedKey = " + keys.Text(two), "AllowedIPs = 10.1.2.3/8, ::/0", "Endpoint = 192.0.2.1:9", "PersistentKeepalive = 25",
		"[ PEER ]\r", "\tpublickey=" + keys.Text(two) + "\r", "ENDPOINT=[2001:0:0:0:0:0:0:1]:65535",
	}, "\n"), api.Ini{Private: two, Port: 51820, Mark: math.MaxUint32, Peers: []api.IniPeer{
		{Key: one, Psk: two, End: four, Keep: 25, Allowed: list("10.0.0.0/8", "::/0")},
		{Key: two, End: six},
	}})
}

// P43.1: what is not said is zero.
func TestUnsaid(t *testing.T) {
	for _, s := range []string{"", "\n", "# x", "[Interface]", "\n[Interface]\n\n"} {
		says(t, s, api.Ini{})
	}
	says(t, peer, api.Ini{Peers: []api.IniPeer{{Key: one}}})
	says(t, "[Interface]\nListenPort=1", api.Ini{Port: 1})
	says(t, "[Interface]\nFwMark=1", api.Ini{Mark: 1})
	says(t, "[Interface]\nPrivateKey="+keys.Text(one), api.Ini{Private: one})
	for line, p := range map[string]api.IniPeer{
		"PresharedKey=" + keys.Text(two): {Key: one, Psk: two},
		"Endpoint=192.0.2.1:9":           {Key: one, End: four},
		"PersistentKeepalive=1":          {Key: one, Keep: 1},
		"AllowedIPs=::1":                 {Key: one, Allowed: list("::1/128")},
	} {
		says(t, peer+"\n"+line, api.Ini{Peers: []api.IniPeer{p}})
	}
}

// P43.1: sections in any order, and a peer's pairs too.
func TestOrder(t *testing.T) {
	says(t, "[Peer]\nAllowedIPs=::1\nPublicKey="+keys.Text(two)+"\n"+peer+"\n[Interface]\nListenPort=7\n"+peer+"\nPersistentKeepalive=1", api.Ini{Port: 7, Peers: []api.IniPeer{
		{Key: two, Allowed: list("::1")}, {Key: one}, {Key: one, Keep: 1},
	}})
}

// P43.1: values at their edges.
func TestValues(t *testing.T) {
	device := func(line string, x api.Ini) {
		t.Helper()
		says(t, "[interface]\n"+line, x)
	}
	device("privatekey="+zero, api.Ini{})
	device("privatekey="+keys.Text(one), api.Ini{Private: one})
	device("listenport=0", api.Ini{})
	device("listenport=65535", api.Ini{Port: 65535})
	device("fwmark=0", api.Ini{})
	device("fwmark=off", api.Ini{})
	device("fwmark=4294967295", api.Ini{Mark: math.MaxUint32})
	of := func(line string, p api.IniPeer) {
		t.Helper()
		p.Key = one
		says(t, peer+"\n"+line, api.Ini{Peers: []api.IniPeer{p}})
	}
	of("presharedkey="+zero, api.IniPeer{})
	of("persistentkeepalive=0", api.IniPeer{})
	of("persistentkeepalive=off", api.IniPeer{})
	of("persistentkeepalive=65535", api.IniPeer{Keep: 65535})
	of("endpoint=[2001::1]:65535", api.IniPeer{End: six})
	of("allowedips=", api.IniPeer{})
	of("allowedips= # ::1", api.IniPeer{})
	of("allowedips=10.1.2.3/8", api.IniPeer{Allowed: list("10.0.0.0/8")})
	of("allowedips=::/0,::/0", api.IniPeer{Allowed: list("::/0", "::/0")})
	of("allowedips=\t::1 \r,10.0.0.1,  1::/16 ", api.IniPeer{Allowed: list("::1/128", "10.0.0.1/32", "1::/16")})
}

// P43.1: what is wrong with a value is told as its layer tells it.
func TestWrongValues(t *testing.T) {
	short, long := strings.Repeat("A", 40), strings.Repeat("A", 44)
	for _, x := range []struct {
		names, value string
		want         api.Errno
	}{
		{"privatekey publickey presharedkey", "", api.ErrShort},
		{"privatekey publickey presharedkey", "x", api.ErrForm},
		{"privatekey publickey presharedkey", "off", api.ErrForm},
		{"privatekey publickey presharedkey", strings.Repeat("0", 62) + "01", api.ErrLong},
		{"privatekey publickey presharedkey", short, api.ErrShort},
		{"privatekey publickey presharedkey", long, api.ErrLong},
		{"privatekey publickey presharedkey", strings.Repeat("A", 42) + "B=", api.ErrZero},
		{"privatekey publickey presharedkey", strings.Repeat("A", 43), api.ErrForm},
		{"publickey", zero, api.ErrZero},
		{"listenport fwmark persistentkeepalive", "", api.ErrForm},
		{"listenport fwmark persistentkeepalive", "-1", api.ErrForm},
		{"listenport fwmark persistentkeepalive", "+1", api.ErrForm},
		{"listenport fwmark persistentkeepalive", "01", api.ErrForm},
		{"listenport fwmark persistentkeepalive", "0x5", api.ErrForm},
		{"listenport fwmark persistentkeepalive", "1 2", api.ErrForm},
		{"listenport fwmark persistentkeepalive", "Off", api.ErrForm},
		{"listenport fwmark persistentkeepalive", "OFF", api.ErrForm},
		{"listenport fwmark persistentkeepalive", "off off", api.ErrForm},
		{"listenport fwmark persistentkeepalive", "on", api.ErrForm},
		{"listenport", "off", api.ErrForm},
		{"listenport persistentkeepalive", "65536", api.ErrRange},
		{"listenport persistentkeepalive", "4294967296", api.ErrRange},
		{"listenport fwmark persistentkeepalive", "18446744073709551616", api.ErrRange},
		{"fwmark", "4294967296", api.ErrRange},
		{"endpoint", "", api.ErrForm},
		{"endpoint", "off", api.ErrForm},
		{"endpoint", "192.0.2.1", api.ErrForm},
		{"endpoint", "192.0.2.1:0", api.ErrRange},
		{"endpoint", "192.0.2.1:65536", api.ErrRange},
		{"endpoint", "192.0.2.1:9, 192.0.2.1:9", api.ErrForm},
		{"endpoint", "::1:9", api.ErrForm},
		{"endpoint", "localhost:9", api.ErrForm},
		{"allowedips", ",", api.ErrForm},
		{"allowedips", "off", api.ErrForm},
		{"allowedips", "::1,", api.ErrForm},
		{"allowedips", ",::1", api.ErrForm},
		{"allowedips", "::1,,::2", api.ErrForm},
		{"allowedips", "::1, ,::2", api.ErrForm},
		{"allowedips", "::1 ::2", api.ErrForm},
		{"allowedips", "::1;::2", api.ErrForm},
		{"allowedips", "10.0.0.0/ 8", api.ErrForm},
		{"allowedips", "10.0.0.0/33", api.ErrRange},
		{"allowedips", "::1, 10.0.0.0/33, ::x", api.ErrRange},
		{"allowedips", "::1, ::x, 10.0.0.0/33", api.ErrForm},
		{"allowedips", "::/129,", api.ErrRange},
	} {
		for _, name := range strings.Fields(x.names) {
			front := peer + "\nPersistentKeepalive = 1\n"
			if name == "privatekey" || name == "listenport" || name == "fwmark" {
				front = "[Interface]\n\nListenPort = 1\n"
			}
			fails(t, front+name+" = "+x.value, 4, x.want)
			fails(t, front+name+" = "+x.value+"\nnope\n", 5, api.ErrForm)
			fails(t, front+name+" = "+x.value+"\n[nope]\n[peer]", 4, x.want)
		}
	}
}

// P43.1: which names belong to which section, and to none.
func TestWords(t *testing.T) {
	values := map[string]string{"privatekey": zero, "listenport": "1", "fwmark": "1", "publickey": keys.Text(two), "presharedkey": zero, "allowedips": "", "endpoint": "1.2.3.4:5", "persistentkeepalive": "1"}
	device := map[string]int{"privatekey": 1, "listenport": 1, "fwmark": 1}
	for name, value := range values {
		line := name + " = " + value
		fails(t, line, 1, api.ErrWord)
		fails(t, "\n"+line+"\n[Interface]", 2, api.ErrWord)
		for front, may := range map[string]bool{"[Interface]\n\n": device[name] == 1, peer + "\n": device[name] == 0, "[Interface]\n" + peer + "\n": device[name] == 0, peer + "\n[Interface]\n": device[name] == 1} {
			if _, line, fail := iniread.Read(front + name + " = " + value); may && (line != 0 || fail != api.OK) {
				t.Errorf("Read(%q): %d, %v", front+name+" = "+value, line, fail)
			}
			if !may {
				fails(t, front+line, 1+strings.Count(front, "\n"), api.ErrWord)
				// Where the name does not belong, nobody looks at the value.
				fails(t, front+name+" = ?", 1+strings.Count(front, "\n"), api.ErrWord)
			}
		}
	}
	for _, name := range []string{"nope", "mtu", "private key", "private_key", "interface", "peer", "address", "[", "privatekeys", "privateke", "publickey allowedips"} {
		for front, line := range map[string]int{"": 1, "[Interface]\n": 2, peer + "\n": 3} {
			if name == "[" {
				fails(t, front+"["+name+"] = 1", line, api.ErrForm)
				continue
			}
			fails(t, front+name+" = 1", line, api.ErrWord)
		}
	}
}

// P43.1: sections that are no names.
func TestSections(t *testing.T) {
	for _, name := range []string{"other", "peers", "interface peer", "[peer]", "privatekey", "inter face", "="} {
		fails(t, "["+name+"]", 1, api.ErrWord)
		fails(t, "["+name+"]\nlistenport = x\n[peer]", 1, api.ErrWord)
		fails(t, "[Interface]\n["+name+"]", 2, api.ErrWord)
		fails(t, peer+"\n["+name+"]", 3, api.ErrWord)
		fails(t, "[Peer]\n["+name+"]", 2, api.ErrNone)
	}
}

// P43.1: a peer's section that has no publickey, told where the next one begins, or else where it does.
func TestNone(t *testing.T) {
	for s, line := range map[string]int{
		"[Peer]":                               1,
		"[Peer]\n\n# PublicKey = " + zero:      1,
		"[Peer]\nEndpoint=1.2.3.4:5\n":         1,
		"[Interface]\n\n[Peer]\n":              3,
		peer + "\n[Peer]\nAllowedIPs=::1\n\n":  3,
		"[Peer]\n[Peer]":                       2,
		"[Peer]\n\n" + peer:                    3,
		"[Peer]\n[Interface]":                  2,
		"[Interface]\n[Peer]\n\n[Interface]":   4,
		peer + "\n[Peer]\nEndpoint=[::]:1\n[]": 0,
	} {
		if line == 0 {
			fails(t, s, 5, api.ErrForm)
			continue
		}
		fails(t, s, line, api.ErrNone)
	}
	// What is wrong ahead of the end tells ahead of it.
	fails(t, "[Peer]\nPublicKey = "+zero, 2, api.ErrZero)
	fails(t, "[Peer]\nnope = 1", 2, api.ErrWord)
	fails(t, "[Peer]\nEndpoint = 1", 2, api.ErrForm)
}

// P43.1: the second section interface, and the third.
func TestTwice(t *testing.T) {
	fails(t, "[Interface]\n[Interface]", 2, api.ErrTwice)
	fails(t, "[Interface]\nListenPort=1\n"+peer+"\n[INTERFACE]\nnope=1\n[Interface]", 5, api.ErrTwice)
	fails(t, "[Interface]\n[Interface]\n[Interface]", 2, api.ErrTwice)
	fails(t, peer+"\n[Interface]\n\n[Interface]\n", 5, api.ErrTwice)
}

// P43.1: the 65th section peer.
func TestManyPeers(t *testing.T) {
	s := strings.Repeat(peer+"\n", 64)
	var want api.Ini
	for range 64 {
		want.Peers = append(want.Peers, api.IniPeer{Key: one})
	}
	says(t, s, want)
	says(t, s+"[Interface]\nListenPort=0", want)
	fails(t, s+"[Peer]", 129, api.ErrFull)
	fails(t, s+"# x\n"+peer, 130, api.ErrFull)
	fails(t, s+"[Peer]\nnope=1", 129, api.ErrFull)
	fails(t, s+"[nope]", 129, api.ErrWord)
	fails(t, "[Interface]\n"+s+"[Interface]\n[Peer]", 130, api.ErrTwice)
	fails(t, strings.Repeat(peer+"\n", 63)+"[Peer]\n[Peer]", 128, api.ErrNone)
}

// P43.1: the 65th prefix of one peer, in as many lines as there may be.
func TestManyPrefixes(t *testing.T) {
	all := make([]api.Prefix, 64)
	for i := range all {
		all[i] = list("::1")[0]
	}
	row := func(n int) string { return "\nAllowedIPs = " + strings.TrimSuffix(strings.Repeat("::1,", n), ",") }
	of := func(s string, n int) {
		t.Helper()
		says(t, peer+s, api.Ini{Peers: []api.IniPeer{{Key: one, Allowed: all[:n]}}})
	}
	of(row(64), 64)
	of(row(64)+row(0), 64)
	of(row(63)+row(1), 64)
	of(strings.Repeat(row(1), 64), 64)
	of(strings.Repeat(row(2)+row(0), 32), 64)
	fails(t, peer+row(65), 3, api.ErrFull)
	fails(t, peer+row(64)+row(1), 4, api.ErrFull)
	fails(t, peer+row(64)+row(0)+row(100), 5, api.ErrFull)
	fails(t, peer+strings.Repeat(row(2), 32)+row(1)+"\n[Peer]", 35, api.ErrFull)
	// A part that can not be read tells ahead of how many there are.
	fails(t, peer+row(65)+",", 3, api.ErrForm)
	fails(t, peer+row(64)+row(1)+",::/129", 4, api.ErrRange)
	// Each section has room of its own, be its key another one's, too.
	says(t, peer+row(64)+"\n"+peer+row(64), api.Ini{Peers: []api.IniPeer{{Key: one, Allowed: all}, {Key: one, Allowed: all}}})
}

// P43.1: of what is said more than once the last one counts; prefixes all count, in order.
func TestTwiceSaid(t *testing.T) {
	says(t, strings.Join([]string{
		"[Interface]", "PrivateKey=" + keys.Text(one), "ListenPort=1", "FwMark=5", "ListenPort=2", "PrivateKey=" + keys.Text(two), "FwMark=off",
		"[Peer]", "AllowedIPs=::/0", "PublicKey=" + keys.Text(one), "Endpoint=192.0.2.1:9", "PersistentKeepalive=5", "PresharedKey=" + keys.Text(two), "AllowedIPs=10.1.2.3/8,::/0",
		"Endpoint=[2001::1]:65535", "AllowedIPs=", "PersistentKeepalive=off", "PresharedKey=" + zero, "PublicKey=" + keys.Text(two), "AllowedIPs=1.2.3.4",
	}, "\n"), api.Ini{Private: two, Port: 2, Peers: []api.IniPeer{{Key: two, End: six, Allowed: list("::/0", "10.0.0.0/8", "::/0", "1.2.3.4/32")}}})
	fails(t, peer+"\nPublicKey="+zero, 3, api.ErrZero)
	fails(t, "[Interface]\nListenPort=1\nListenPort=x\nListenPort=2", 3, api.ErrForm)
}

// P43.1: what layer 42 tells goes ahead of all else.
func TestLexed(t *testing.T) {
	fails(t, "nope = 1\nnope", 2, api.ErrForm)
	fails(t, "[Peer]\n[Peer]\n[", 3, api.ErrForm)
	fails(t, "[nope]\n#"+strings.Repeat("x", 512), 2, api.ErrLong)
	fails(t, "[nope]"+strings.Repeat("\n", 401), 401, api.ErrLong)
	fails(t, peer+strings.Repeat("\n", 400), 401, api.ErrLong)
	says(t, peer+strings.Repeat("\n", 399), api.Ini{Peers: []api.IniPeer{{Key: one}}})
}

// Lines by what they do, for files of any order.
var pool = []string{
	"[Interface]", "[Peer]", "[Peer]", "[Other]", "ListenPort = 7", "ListenPort = x", "FwMark = 9", "FwMark = off", "PersistentKeepalive = 3", "PersistentKeepalive = off", "PersistentKeepalive = 65536",
	"PublicKey = " + keys.Text(one), "PublicKey = " + keys.Text(two), "PublicKey = " + zero, "PresharedKey = " + keys.Text(two), "PresharedKey = " + zero, "PrivateKey = " + keys.Text(one), "PrivateKey = " + zero,
	"AllowedIPs = ::1", "AllowedIPs = 10.0.0.0/8, ::/0", "AllowedIPs =", "AllowedIPs = ,", "Endpoint = 192.0.2.1:9", "Endpoint = [2001::1]:65535", "Endpoint = x", "Nope = 1", "# nothing", "",
}

// plain is what lines of the pool say, told line by line.
func plain(l []string) (api.Ini, int, api.Errno) {
	var x api.Ini
	in, last, faces := "", 0, 0
	for i, line := range l {
		name, value, _ := strings.Cut(line, " = ")
		p := &api.IniPeer{}
		if len(x.Peers) > 0 {
			p = &x.Peers[len(x.Peers)-1]
		}
		wrong := func(e api.Errno) (api.Ini, int, api.Errno) { return api.Ini{}, i + 1, e }
		n, noNumber := strconv.Atoi(value)
		key, _ := keys.Parse(value)
		end, _ := hostport.Parse(value)
		switch {
		case line == "" || line[0] == '#':
		case line[0] == '[' && in == "[Peer]" && p.Key == api.Key{}:
			return wrong(api.ErrNone)
		case line == "[Other]":
			return wrong(api.ErrWord)
		case line == "[Interface]" && faces == 1:
			return wrong(api.ErrTwice)
		case line == "[Interface]":
			in, last, faces = line, i+1, 1
		case line == "[Peer]":
			in, last, x.Peers = line, i+1, append(x.Peers, api.IniPeer{})
		case in == "[Interface]" && name == "ListenPort" && noNumber != nil:
			return wrong(api.ErrForm)
		case in == "[Interface]" && name == "ListenPort":
			x.Port = n
		case in == "[Interface]" && name == "FwMark":
			x.Mark = uint32(n)
		case in == "[Interface]" && name == "PrivateKey":
			x.Private = key
		case in == "[Peer]" && name == "PersistentKeepalive" && n > 65535:
			return wrong(api.ErrRange)
		case in == "[Peer]" && name == "PersistentKeepalive":
			p.Keep = n
		case in == "[Peer]" && name == "PublicKey" && key == api.Key{}:
			return wrong(api.ErrZero)
		case in == "[Peer]" && name == "PublicKey":
			p.Key = key
		case in == "[Peer]" && name == "PresharedKey":
			p.Psk = key
		case in == "[Peer]" && (line == "AllowedIPs = ," || line == "Endpoint = x"):
			return wrong(api.ErrForm)
		case in == "[Peer]" && name == "Endpoint":
			p.End = end
		case in == "[Peer]" && line == "AllowedIPs = ::1":
			p.Allowed = append(p.Allowed, list("::1")...)
		case in == "[Peer]" && line == "AllowedIPs = 10.0.0.0/8, ::/0":
			p.Allowed = append(p.Allowed, list("10.0.0.0/8", "::/0")...)
		case in == "[Peer]" && line == "AllowedIPs =":
		default:
			return wrong(api.ErrWord)
		}
	}
	if in == "[Peer]" && (x.Peers[len(x.Peers)-1].Key == api.Key{}) {
		return api.Ini{}, last, api.ErrNone
	}
	return x, 0, api.OK
}

// P43.1: files of lines in any order, held against what they say line by line; 44.3: what is read is right.
func TestPlain(t *testing.T) {
	source := rand.New(rand.NewSource(43))
	told := map[api.Errno]int{}
	for range 60000 {
		var l []string
		for range source.Intn(9) {
			l = append(l, pool[source.Intn(len(pool))])
			if last := l[len(l)-1]; last == "[Peer]" && source.Intn(3) > 0 {
				l = append(l, "PublicKey = "+keys.Text(one))
			}
		}
		want, at, wrong := plain(l)
		s := strings.Join(l, "\n")
		got, line, fail := iniread.Read(s)
		if !iniwrite.Same(got, want) || line != at || fail != wrong || !iniwrite.Right(got) {
			t.Fatalf("Read(%q): %v, %d, %v, not %v, %d, %v", s, got, line, fail, want, at, wrong)
		}
		told[fail]++
	}
	for _, e := range []api.Errno{api.OK, api.ErrNone, api.ErrWord, api.ErrTwice, api.ErrForm, api.ErrRange, api.ErrZero} {
		if told[e] < 50 {
			t.Errorf("%v: %d", e, told[e])
		}
	}
}

// P1: at bytes of any kind it ends.
func TestEnds(t *testing.T) {
	source := rand.New(rand.NewSource(1))
	whole := "[Interface]\nPrivateKey = " + keys.Text(two) + "\nListenPort = 1\nFwMark = off\n" + peer + "\nAllowedIPs = ::1, 10.0.0.0/8\nEndpoint = [::1]:9\nPersistentKeepalive = off\n" + peer + "\n"
	for range 20000 {
		b := []byte(whole)
		for range 1 + source.Intn(3) {
			b[source.Intn(len(b))] = "\n[]=# ,0a:/.\xff"[source.Intn(13)]
		}
		x, line, fail := iniread.Read(string(b))
		if (line == 0) != (fail == api.OK) || !iniwrite.Right(x) || fail != api.OK && !reflect.DeepEqual(x, api.Ini{}) {
			t.Fatalf("Read(%q): %v, %d, %v", b, x, line, fail)
		}
	}
}

// R2: what is answered is new.
func TestAnew(t *testing.T) {
	s := peer + "\nAllowedIPs = ::1, ::/0\n" + peer + "\nAllowedIPs = ::1"
	want := api.Ini{Peers: []api.IniPeer{{Key: one, Allowed: list("::1", "::/0")}, {Key: one, Allowed: list("::1")}}}
	first, _, _ := iniread.Read(s)
	first.Peers[0].Allowed[0] = api.Prefix{}
	_ = append(first.Peers[0].Allowed, api.Prefix{})
	if first.Peers[1].Allowed[0] != list("::1")[0] {
		t.Errorf("written: %v", first)
	}
	first.Peers[1] = api.IniPeer{}
	says(t, s, want)
}

// The chapter's example.
func TestExample(t *testing.T) {
	if x, line, fail := iniread.Read(""); !reflect.DeepEqual(x, api.Ini{}) || line != 0 || fail != api.OK {
		t.Errorf("Read: %v, %d, %v", x, line, fail)
	}
}
