package uapi_test

import (
	"math/rand"
	"strconv"
	"strings"
	"testing"

	"crawlway/addr"
	"crawlway/api"
	"crawlway/cidr"
	"crawlway/getback"
	"crawlway/getres"
	"crawlway/setreq"
	"crawlway/state"
	"crawlway/uapi"
	"crawlway/view"
)

const get = "get=1\n\n"

// hex is a key's text.
func hex(i int) string {
	last := strconv.FormatInt(int64(i), 16)
	return strings.Repeat("0", 64-len(last)) + last
}

// set is a request's text of lines behind the first one.
func set(l ...string) string {
	return strings.Join(append([]string{"set=1"}, l...), "\n") + "\n\n"
}

// refused is the text of an error.
func refused(e api.Errno) string { return "errno=" + strconv.Itoa(int(e)) + "\n\n" }

// serves asks for an answer.
func serves(t *testing.T, s *state.State, asked, want string) {
	t.Helper()
	if got := string(uapi.Serve(s, []byte(asked))); got != want {
		t.Errorf("Serve(%.200q): %q, not %q", asked, got, want)
	}
}

// some is a state that has something of all.
func some(t *testing.T) *state.State {
	t.Helper()
	s := state.New()
	serves(t, s, set("private_key="+hex(9), "listen_port=51820", "fwmark=7", "public_key="+hex(1), "endpoint=192.0.2.1:9", "allowed_ip=10.0.0.0/8", "allowed_ip=::/0",
		"public_key="+hex(2), "preshared_key="+hex(3), "persistent_keepalive_interval=25"), "errno=0\n\n")
	s.Count(api.Key{31: 1}, 5, 6)
	return s
}

// P41.1: all that there is, as layers 34 and 39 show it.
func TestServeGet(t *testing.T) {
	for _, s := range []*state.State{state.New(), some(t), {}} {
		want, _ := getres.Text(view.Of(s))
		serves(t, s, get, want)
		if c, fail := getback.Parse(want); fail != api.OK || !view.Same(c, view.Of(s)) {
			t.Errorf("Parse: %v, %v", c, fail)
		}
	}
	zero := "private_key=" + hex(0) + "\nlisten_port=0\nfwmark=0\n"
	serves(t, state.New(), get, zero+"errno=0\n\n")
	serves(t, &state.State{}, get, zero+"errno=0\n\n")
	serves(t, some(t), get, "private_key="+hex(9)+"\nlisten_port=51820\nfwmark=7\n"+
		"public_key="+hex(1)+"\npreshared_key="+hex(0)+"\nprotocol_version=1\nendpoint=192.0.2.1:9\ntx_bytes=5\nrx_bytes=6\npersistent_keepalive_interval=0\nallowed_ip=10.0.0.0/8\nallowed_ip=::/0\n"+
		"public_key="+hex(2)+"\npreshared_key="+hex(3)+"\nprotocol_version=1\ntx_bytes=0\nrx_bytes=0\npersistent_keepalive_interval=25\nerrno=0\n\n")
}

// P41.1: a request that can be done is done.
func TestServeSet(t *testing.T) {
	s, plain := state.New(), state.New()
	for _, asked := range []string{
		set("listen_port=9"),
		set("public_key="+hex(1), "allowed_ip=10.0.0.0/8", "public_key="+hex(2), "allowed_ip=10.0.0.0/8"),
		set("fwmark=1", "public_key="+hex(3), "update_only=true", "public_key="+hex(1), "remove=true"),
		set(),
		set("replace_peers=true", "public_key="+hex(4), "protocol_version=1"),
	} {
		r, fail := setreq.Parse(asked)
		if fail != api.OK || plain.Apply(r) != api.OK {
			t.Fatalf("Parse(%q): %v", asked, fail)
		}
		serves(t, s, asked, "errno=0\n\n")
		if !view.Same(view.Of(s), view.Of(plain)) {
			t.Errorf("Of: %v, not %v", view.Of(s), view.Of(plain))
		}
	}
	if c := view.Of(s); c.Port != 9 || c.Mark != 1 || len(c.Peers) != 1 || c.Peers[0].Key != (api.Key{31: 4}) {
		t.Errorf("Of: %v", c)
	}
}

// P41.1: what can not be parsed, or not be done, changes nothing.
func TestServeRefused(t *testing.T) {
	var many, wide []string
	for i := range 17 {
		many = append(many, "public_key="+hex(100+i))
	}
	for i := range 63 {
		wide = append(wide, "allowed_ip=10.0.0."+strconv.Itoa(i))
	}
	for asked, want := range map[string]api.Errno{
		"":                                    api.ErrForm,
		"\n":                                  api.ErrForm,
		"get=1":                               api.ErrForm,
		"get=1\n":                             api.ErrForm,
		"get=1\n\n\n":                         api.ErrForm,
		"get=1\n\nget=1\n\n":                  api.ErrForm,
		"get=2\n\n":                           api.ErrForm,
		"get=1\nget=1\n\n":                    api.ErrForm,
		"get=1\nset=1\n\n":                    api.ErrForm,
		"GET=1\n\n":                           api.ErrForm,
		" get=1\n\n":                          api.ErrForm,
		"get=1\r\n\r\n":                       api.ErrForm,
		"set=1\n":                             api.ErrForm,
		set("get=1"):                          api.ErrWord,
		set("nope=1"):                         api.ErrWord,
		set("listen_port=8", "listen_port=x"): api.ErrForm,
		set("listen_port=8", "listen_port=65536"):                                api.ErrRange,
		set("listen_port=8", "public_key="+hex(0)):                               api.ErrZero,
		set("listen_port=8", "public_key="+hex(7), "errno=0"):                    api.ErrWord,
		set("listen_port=8", "public_key=00"):                                    api.ErrShort,
		set("listen_port=8", "x="+strings.Repeat("x", 511)):                      api.ErrLong,
		set(append([]string{"listen_port=8", "replace_peers=true"}, many...)...): api.ErrFull,
		set(append(append([]string{"listen_port=8"}, many[0]), wide...)...):      api.ErrFull,
	} {
		s := some(t)
		have := view.Of(s)
		serves(t, s, asked, refused(want))
		if got := view.Of(s); !view.Same(got, have) {
			t.Errorf("Serve(%.200q): %v, not %v", asked, got, have)
		}
	}
}

// P41.1, P1: of nil, whatever is asked; of a zero state, which has nothing and takes nothing.
func TestNil(t *testing.T) {
	for _, asked := range []string{"", get, set(), set("listen_port=9"), set("nope=1"), "x", strings.Repeat("x", 1000)} {
		serves(t, nil, asked, "errno=2\n\n")
	}
	if got := string(uapi.Serve(nil, nil)); got != "errno=2\n\n" {
		t.Errorf("Serve: %q", got)
	}
	serves(t, &state.State{}, set("listen_port=9"), "errno=2\n\n")
	serves(t, &state.State{}, set("nope=1"), "errno=12\n\n")
}

// P41.2: the bytes that ask for all.
func TestGet(t *testing.T) {
	if got := string(uapi.Get()); got != get {
		t.Errorf("Get: %q", got)
	}
	serves(t, state.New(), string(uapi.Get()), "private_key="+hex(0)+"\nlisten_port=0\nfwmark=0\nerrno=0\n\n")
}

// anyRequest is some right request.
func anyRequest(source *rand.Rand) api.Request {
	r := api.Request{HasPort: true, Port: source.Intn(65536), Replace: source.Intn(20) == 0}
	for range source.Intn(4) {
		p := api.PeerChange{Key: api.Key{31: byte(1 + source.Intn(20))}, Remove: source.Intn(5) == 0, Update: source.Intn(5) == 0, Replace: source.Intn(5) == 0}
		for range source.Intn(9) {
			p.Allowed = append(p.Allowed, cidr.Whole(addr.Four([4]byte{10, 0, 0, byte(source.Intn(100))})))
		}
		r.Peers = append(r.Peers, p)
	}
	return r
}

// P41.1: what is answered, request by request, as of a state that is asked by itself.
func TestFollows(t *testing.T) {
	source := rand.New(rand.NewSource(41))
	s, plain := state.New(), state.New()
	full := 0
	for range 1000 {
		r := anyRequest(source)
		asked, _ := setreq.Text(r)
		want := plain.Apply(r)
		if want == api.ErrFull {
			full++
		}
		serves(t, s, asked, refused(want))
		text, _ := getres.Text(view.Of(plain))
		serves(t, s, get, text)
	}
	if full < 20 || full > 900 {
		t.Errorf("%d full", full)
	}
}

// R2: what is answered is new, and what is handed in is neither changed nor kept.
func TestAnew(t *testing.T) {
	b := uapi.Get()
	b[0] = 'x'
	if got := string(uapi.Get()); got != get {
		t.Errorf("Get: %q", got)
	}
	s := some(t)
	want := string(uapi.Serve(s, uapi.Get()))
	answer := uapi.Serve(s, uapi.Get())
	answer[0] = 'x'
	serves(t, s, get, want)
	asked := []byte(set("listen_port=51820"))
	uapi.Serve(s, asked)
	if string(asked) != set("listen_port=51820") {
		t.Errorf("handed in: %q", asked)
	}
	clear(asked)
	serves(t, s, get, want)
}

// The chapter's example.
func TestExample(t *testing.T) {
	for _, b := range [][]byte{nil, {}} {
		if got := string(uapi.Serve(state.New(), b)); got != "errno=5\n\n" {
			t.Errorf("Serve: %q", got)
		}
	}
}
