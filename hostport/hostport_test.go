package hostport_test

import (
	"math"
	"math/rand"
	"net/netip"
	"strconv"
	"strings"
	"testing"

	"crawlway/addr"
	"crawlway/api"
	"crawlway/hostport"
)

// someAddrs are right addresses of both families.
func someAddrs() []api.Addr {
	list := []api.Addr{{V: 4}, {V: 4, B: [16]byte{10, 1, 2, 3}}, {V: 4, B: [16]byte{255, 255, 255, 255}}, {V: 6}, {V: 6, B: [16]byte{15: 1}}, {V: 6, B: [16]byte{32, 1, 13, 184, 15: 255}}}
	source := rand.New(rand.NewSource(12))
	for range 20 {
		var b [16]byte
		source.Read(b[:])
		list = append(list, addr.Six(b), addr.Four([4]byte(b[:4])))
	}
	return list
}

// P12.1: right by its address, and its port.
func TestRight(t *testing.T) {
	for _, a := range someAddrs() {
		for port, want := range map[int]bool{1: true, 2: true, 80: true, 51820: true, 65534: true, 65535: true, 0: false, -1: false, 65536: false, math.MaxInt: false, math.MinInt: false, 1 << 32: false, 1<<32 + 1: false} {
			if e := (api.Endpoint{A: a, Port: port}); hostport.Right(e) != want {
				t.Errorf("Right(%v) is not %v", e, want)
			}
		}
	}
	for _, a := range []api.Addr{{}, {V: 5}, {V: -6}, {V: 4, B: [16]byte{4: 1}}, {V: 4, B: [16]byte{15: 1}}} {
		for _, port := range []int{-1, 0, 1, 65535} {
			if e := (api.Endpoint{A: a, Port: port}); hostport.Right(e) {
				t.Errorf("Right(%v)", e)
			}
		}
	}
}

// P12.1: the zero endpoint alone is none.
func TestNone(t *testing.T) {
	if !hostport.None(api.Endpoint{}) {
		t.Error("the zero endpoint")
	}
	for _, e := range []api.Endpoint{{Port: 1}, {Port: -1}, {A: api.Addr{V: 4}}, {A: api.Addr{V: 6}}, {A: api.Addr{B: [16]byte{15: 1}}}, {A: api.Addr{B: [16]byte{1}}}, {A: api.Addr{V: 4}, Port: 1}} {
		if hostport.None(e) {
			t.Errorf("None(%v)", e)
		}
	}
}

// P12.2: [ and ] around family 6 alone.
func TestText(t *testing.T) {
	for want, e := range map[string]api.Endpoint{
		"0.0.0.0:1":                 {A: api.Addr{V: 4}, Port: 1},
		"1.2.3.4:51820":             {A: addr.Four([4]byte{1, 2, 3, 4}), Port: 51820},
		"255.255.255.255:65535":     {A: addr.Four([4]byte{255, 255, 255, 255}), Port: 65535},
		"[::]:1":                    {A: api.Addr{V: 6}, Port: 1},
		"[2001:db8::1:0:0:1]:65535": {A: addr.Six([16]byte{32, 1, 13, 184, 9: 1, 15: 1}), Port: 65535},
		"[::ffff:102:304]:80":       {A: addr.Six([16]byte{10: 255, 255, 1, 2, 3, 4}), Port: 80},
	} {
		if got := hostport.Text(e); got != want {
			t.Errorf("Text(%v): %s", e, got)
		}
	}
	for _, e := range []api.Endpoint{
		{}, {Port: 80}, {A: api.Addr{V: 4}}, {A: api.Addr{V: 6}}, {A: api.Addr{V: 4}, Port: -1}, {A: api.Addr{V: 4}, Port: 65536}, {A: api.Addr{V: 6}, Port: 65536}, {A: api.Addr{V: 4, B: [16]byte{4: 1}}, Port: 80}, {A: api.Addr{V: 5}, Port: 80},
	} {
		if got := hostport.Text(e); got != "" {
			t.Errorf("Text(%v): %s", e, got)
		}
	}
}

// P12.2, P12.3, P12.4: the text of a right endpoint is the library's, and parsed as it.
func TestTextAndBack(t *testing.T) {
	for _, a := range someAddrs() {
		for _, port := range []int{1, 9, 10, 80, 443, 9999, 51820, 65535} {
			e := api.Endpoint{A: a, Port: port}
			text := hostport.Text(e)
			b, _ := netip.AddrFromSlice(addr.Bytes(a))
			if want := netip.AddrPortFrom(b, uint16(port)).String(); text != want {
				t.Errorf("Text(%v): %s, not %s", e, text, want)
			}
			if got, fail := hostport.Parse(text); got != e || fail != api.OK {
				t.Errorf("Parse(%s): %v, %v", text, got, fail)
			}
		}
	}
}

// P12.3, P12.4: what is parsed, by its text.
func TestParse(t *testing.T) {
	for s, want := range map[string]string{
		"[::1]:51820":           "[::1]:51820",
		"1.2.3.4:5":             "1.2.3.4:5",
		"1.2.3.4:65535":         "1.2.3.4:65535",
		"[0:0:0:0:0:0:0:1]:1":   "[::1]:1",
		"[2001:DB8::]:80":       "[2001:db8::]:80",
		"[::ffff:1.2.3.4]:9":    "[::ffff:102:304]:9",
		"[1:2:3:4:5:6:7::]:443": "[1:2:3:4:5:6:7:0]:443",
	} {
		e, fail := hostport.Parse(s)
		if got := hostport.Text(e); got != want || fail != api.OK || !hostport.Right(e) {
			t.Errorf("Parse(%s): %s, %v", s, got, fail)
		}
		if again, fail := hostport.Parse(want); again != e || fail != api.OK {
			t.Errorf("Parse(%s): %v, %v", want, again, fail)
		}
	}
}

// P12.3: the parts' form first, then the address, then the port.
func TestParseWrong(t *testing.T) {
	for s, want := range map[string]api.Errno{
		"::1:51820":                       api.ErrForm,
		"":                                api.ErrForm,
		":":                               api.ErrForm,
		"::":                              api.ErrForm,
		":80":                             api.ErrForm,
		"1.2.3.4":                         api.ErrForm,
		"1.2.3.256":                       api.ErrForm,
		"1.2.3.4:":                        api.ErrForm,
		"1.2.3.4:x":                       api.ErrForm,
		"1.2.3.4:080":                     api.ErrForm,
		"1.2.3.4:00":                      api.ErrForm,
		"1.2.3.4: 80":                     api.ErrForm,
		"1.2.3.4:80 ":                     api.ErrForm,
		" 1.2.3.4:80":                     api.ErrForm,
		"1.2.3.4:-1":                      api.ErrForm,
		"1.2.3.4:80:80":                   api.ErrForm,
		"1.2.3.4::80":                     api.ErrForm,
		"1.2.3.4]:80":                     api.ErrForm,
		"1.2.3.4:0":                       api.ErrRange,
		"1.2.3.4:65536":                   api.ErrRange,
		"1.2.3.4:18446744073709551696":    api.ErrRange,
		"1.2.3.256:80":                    api.ErrRange,
		"1.2.3.256:x":                     api.ErrRange,
		"1.2.3.256:0":                     api.ErrRange,
		"1.2.3.x:65536":                   api.ErrForm,
		"1.2.3:0":                         api.ErrForm,
		"example:80":                      api.ErrForm,
		"[":                               api.ErrForm,
		"[]":                              api.ErrForm,
		"[]:":                             api.ErrForm,
		"[]:80":                           api.ErrForm,
		"[:]:80":                          api.ErrForm,
		"[::1]":                           api.ErrForm,
		"[::1]80":                         api.ErrForm,
		"[::1:80":                         api.ErrForm,
		"[::1] :80":                       api.ErrForm,
		"[::1]:":                          api.ErrForm,
		"[::1]:x":                         api.ErrForm,
		"[::1]:080":                       api.ErrForm,
		"[::1]::80":                       api.ErrForm,
		"[::1]:80]:80":                    api.ErrForm,
		"[::1]]:80":                       api.ErrForm,
		"[[::1]]:80":                      api.ErrForm,
		"[[::1]:80":                       api.ErrForm,
		"::1]:80":                         api.ErrForm,
		"x[::1]:80":                       api.ErrForm,
		"[::1]:0":                         api.ErrRange,
		"[::1]:65536":                     api.ErrRange,
		"[::1]:99999999999999999999":      api.ErrRange,
		"[::x]:65536":                     api.ErrForm,
		"[::1.2.3.256]:65536":             api.ErrForm,
		"[1.2.3.4]:80":                    api.ErrForm,
		"[1.2.3.256]:80":                  api.ErrForm,
		"[1.2.3.256]:65536":               api.ErrForm,
		"[1.2.3.4:5]:65536":               api.ErrForm,
		"[::1%0]:80":                      api.ErrForm,
		strings.Repeat("[", 1000) + "]:8": api.ErrForm,
	} {
		if e, fail := hostport.Parse(s); e != (api.Endpoint{}) || fail != want {
			t.Errorf("Parse(%.60q): %v, %v", s, e, fail)
		}
	}
}

// P12.3: all ports, and some beyond them.
func TestPorts(t *testing.T) {
	for port := range 70000 {
		text := "0.0.0.0:" + strconv.Itoa(port)
		want, fails := api.Endpoint{A: api.Addr{V: 4}, Port: port}, api.OK
		if port < 1 || port > 65535 {
			want, fails = api.Endpoint{}, api.ErrRange
		}
		if e, fail := hostport.Parse(text); e != want || fail != fails {
			t.Fatalf("Parse(%s): %v, %v", text, e, fail)
		}
	}
}
