package cidr_test

import (
	"math"
	"math/rand"
	"net/netip"
	"testing"

	"crawlway/addr"
	"crawlway/api"
	"crawlway/cidr"
)

// parsed is the prefix of a text that is right.
func parsed(t *testing.T, s string) api.Prefix {
	t.Helper()
	p, fail := cidr.Parse(s)
	if fail != api.OK {
		t.Fatalf("Parse(%s): %v", s, fail)
	}
	return p
}

// wrong are addresses that are not right.
func wrong() []api.Addr {
	return []api.Addr{{}, {V: 5}, {V: -4}, {V: 32}, {V: 4, B: [16]byte{4: 1}}, {V: 4, B: [16]byte{10, 15: 1}}, {V: 0, B: [16]byte{10}}, {V: 7, B: [16]byte{10}}}
}

// some are right prefixes of both families, many of them one within another.
func some() []api.Prefix {
	source := rand.New(rand.NewSource(11))
	var list []api.Prefix
	for _, a := range []api.Addr{{V: 4}, {V: 4, B: [16]byte{10, 1, 2, 3}}, {V: 4, B: [16]byte{255, 255, 255, 255}}, {V: 6}, {V: 6, B: [16]byte{10, 1, 2, 3}}, {V: 6, B: [16]byte{32, 1, 13, 184, 15: 255}}} {
		width := addr.Width(a)
		for _, bits := range []int{0, 1, 7, 8, 9, 16, 24, 31, width - 1, width, source.Intn(width), source.Intn(width)} {
			p := api.Prefix{A: addr.Mask(a, bits), Bits: bits}
			list = append(list, p)
		}
	}
	return list
}

// as is a right prefix as the library has it.
func as(p api.Prefix) netip.Prefix {
	a, _ := netip.AddrFromSlice(addr.Bytes(p.A))
	return netip.PrefixFrom(a, p.Bits)
}

// P11.1: right by its address, its Bits, and the bits behind them.
func TestRight(t *testing.T) {
	for _, p := range some() {
		if !cidr.Right(p) {
			t.Errorf("Right(%v)", p)
		}
	}
	for _, p := range []api.Prefix{
		{Bits: 0}, {Bits: 1},
		{A: api.Addr{V: 4}, Bits: -1}, {A: api.Addr{V: 4}, Bits: 33}, {A: api.Addr{V: 4}, Bits: 128}, {A: api.Addr{V: 4}, Bits: math.MaxInt}, {A: api.Addr{V: 4}, Bits: math.MinInt},
		{A: api.Addr{V: 6}, Bits: -1}, {A: api.Addr{V: 6}, Bits: 129}, {A: api.Addr{V: 6}, Bits: math.MaxInt},
		{A: api.Addr{V: 4, B: [16]byte{10}}, Bits: 0}, {A: api.Addr{V: 4, B: [16]byte{10}}, Bits: 6}, {A: api.Addr{V: 4, B: [16]byte{3: 1}}, Bits: 31},
		{A: api.Addr{V: 6, B: [16]byte{15: 1}}, Bits: 127}, {A: api.Addr{V: 6, B: [16]byte{15: 1}}, Bits: 0},
		{A: api.Addr{V: 4, B: [16]byte{4: 1}}, Bits: 32},
	} {
		if cidr.Right(p) {
			t.Errorf("Right(%v)", p)
		}
	}
	for _, p := range []api.Prefix{{A: api.Addr{V: 4, B: [16]byte{10}}, Bits: 7}, {A: api.Addr{V: 4, B: [16]byte{3: 1}}, Bits: 32}, {A: api.Addr{V: 6, B: [16]byte{15: 1}}, Bits: 128}} {
		if !cidr.Right(p) {
			t.Errorf("Right(%v)", p)
		}
	}
	for _, a := range wrong() {
		for _, bits := range []int{-1, 0, 8, 32, 128} {
			if cidr.Right(api.Prefix{A: a, Bits: bits}) {
				t.Errorf("Right(%v, %d)", a, bits)
			}
		}
	}
}

// P11.1: a prefix of an address's first bits, whatever stands behind them.
func TestOf(t *testing.T) {
	for _, c := range []struct {
		a    api.Addr
		bits int
		want string
		fail api.Errno
	}{
		{addr.Four([4]byte{10, 1, 2, 3}), 0, "0.0.0.0/0", api.OK},
		{addr.Four([4]byte{10, 1, 2, 3}), 8, "10.0.0.0/8", api.OK},
		{addr.Four([4]byte{10, 1, 2, 3}), 31, "10.1.2.2/31", api.OK},
		{addr.Four([4]byte{10, 1, 2, 3}), 32, "10.1.2.3/32", api.OK},
		{addr.Four([4]byte{10, 1, 2, 3}), 33, "", api.ErrRange},
		{addr.Four([4]byte{10, 1, 2, 3}), -1, "", api.ErrRange},
		{addr.Four([4]byte{10, 1, 2, 3}), math.MaxInt, "", api.ErrRange},
		{addr.Four([4]byte{10, 1, 2, 3}), math.MinInt, "", api.ErrRange},
		{addr.Six([16]byte{32, 1, 15: 1}), 33, "2001::/33", api.OK},
		{addr.Six([16]byte{32, 1, 15: 1}), 128, "2001::1/128", api.OK},
		{addr.Six([16]byte{32, 1, 15: 1}), 129, "", api.ErrRange},
		{addr.Six([16]byte{32, 1, 15: 1}), -1, "", api.ErrRange},
	} {
		p, fail := cidr.Of(c.a, c.bits)
		if fail != c.fail || cidr.Text(p) != c.want || fail != api.OK && p != (api.Prefix{}) {
			t.Errorf("Of(%v, %d): %v, %v", c.a, c.bits, p, fail)
		}
	}
	for _, a := range wrong() {
		for _, bits := range []int{math.MinInt, -1, 0, 8, 32, 129, math.MaxInt} {
			if p, fail := cidr.Of(a, bits); p != (api.Prefix{}) || fail != api.ErrArg {
				t.Errorf("Of(%v, %d): %v, %v", a, bits, p, fail)
			}
		}
	}
}

// P11.1: all bits of an address.
func TestWhole(t *testing.T) {
	for _, p := range some() {
		if got := cidr.Whole(p.A); got != (api.Prefix{A: p.A, Bits: addr.Width(p.A)}) {
			t.Errorf("Whole(%v): %v", p.A, got)
		}
	}
	for _, a := range wrong() {
		if got := cidr.Whole(a); got != (api.Prefix{}) {
			t.Errorf("Whole(%v): %v", a, got)
		}
	}
}

// P11.2: as the library has it, for each two.
func TestHasAndCovers(t *testing.T) {
	for _, p := range some() {
		for _, q := range some() {
			has := as(p).Contains(as(q).Addr())
			if cidr.Has(p, q.A) != has {
				t.Errorf("Has(%v, %v) is not %v", as(p), as(q).Addr(), has)
			}
			if covers := has && p.Bits <= q.Bits; cidr.Covers(p, q) != covers {
				t.Errorf("Covers(%v, %v) is not %v", as(p), as(q), covers)
			}
		}
	}
}

// P11.2: some, as people would ask.
func TestHasAndCoversByText(t *testing.T) {
	for _, c := range []struct {
		p, q        string
		has, covers bool
	}{
		{"10.0.0.0/8", "10.1.0.0/16", true, true},
		{"10.1.0.0/16", "10.0.0.0/8", false, false},
		{"10.0.0.0/16", "10.0.0.0/8", true, false},
		{"10.0.0.0/8", "10.0.0.0/8", true, true},
		{"10.0.0.0/8", "11.0.0.0/8", false, false},
		{"10.0.0.0/7", "11.255.255.255", true, true},
		{"10.0.0.0/7", "12.0.0.0", false, false},
		{"0.0.0.0/0", "255.255.255.255", true, true},
		{"0.0.0.0/0", "::", false, false},
		{"::/0", "0.0.0.0", false, false},
		{"::/0", "ffff::", true, true},
		{"::/0", "::/0", true, true},
		{"::1", "::1", true, true},
		{"::1", "::", false, false},
		{"::/127", "::1", true, true},
		{"::/127", "::2", false, false},
	} {
		p, q := parsed(t, c.p), parsed(t, c.q)
		if cidr.Has(p, q.A) != c.has || cidr.Covers(p, q) != c.covers {
			t.Errorf("%s and %s: %v, %v", c.p, c.q, cidr.Has(p, q.A), cidr.Covers(p, q))
		}
	}
}

// P11.2: what is not right has nothing, and is had by nothing.
func TestHasAndCoversWrong(t *testing.T) {
	all, all6 := parsed(t, "0.0.0.0/0"), parsed(t, "::/0")
	for _, a := range wrong() {
		for _, p := range []api.Prefix{all, all6, {}, {A: a}} {
			if cidr.Has(p, a) || cidr.Covers(p, api.Prefix{A: a}) || cidr.Covers(api.Prefix{A: a}, p) {
				t.Errorf("%v and %v", p, a)
			}
		}
	}
	for _, p := range []api.Prefix{
		{A: addr.Four([4]byte{10, 1}), Bits: 8}, {A: addr.Four([4]byte{10}), Bits: 33}, {A: addr.Four([4]byte{10}), Bits: -1}, {A: api.Addr{V: 4}, Bits: -1}, {A: api.Addr{V: 6}, Bits: math.MinInt}, {A: addr.Six([16]byte{10}), Bits: 129}, {A: addr.Six([16]byte{10}), Bits: 0},
	} {
		if cidr.Has(p, p.A) || cidr.Covers(p, p) || cidr.Covers(p, cidr.Whole(p.A)) || cidr.Covers(all, p) || cidr.Covers(all6, p) {
			t.Errorf("%v", p)
		}
	}
}

// P11.3: the address, then the Bits.
func TestLess(t *testing.T) {
	order := []string{"0.0.0.0/0", "0.0.0.0/1", "0.0.0.0/32", "9.0.0.0/8", "10.0.0.0/7", "10.0.0.0/8", "10.0.0.0/32", "10.1.0.0/16", "128.0.0.0/1", "255.0.0.0/8", "::/0", "::/128", "::1/128", "100::/8", "2001:db8::/32", "2001:db8::/33", "2001:db8:1::/48"}
	for i, s := range order {
		for j, x := range order {
			if cidr.Less(parsed(t, s), parsed(t, x)) != (i < j) {
				t.Errorf("Less(%s, %s) is not %v", s, x, i < j)
			}
		}
	}
}

// P11.4, P11.5: the text of a right prefix, which is parsed as the same; none of others.
func TestText(t *testing.T) {
	for _, p := range some() {
		if got := cidr.Text(p); got != as(p).String() {
			t.Errorf("Text(%v): %s", as(p), got)
		}
		if got := parsed(t, cidr.Text(p)); got != p {
			t.Errorf("Parse(%s): %v", cidr.Text(p), got)
		}
	}
	for _, p := range []api.Prefix{
		{}, {Bits: 8}, {A: api.Addr{V: 4}, Bits: -1}, {A: api.Addr{V: 4}, Bits: 33}, {A: api.Addr{V: 6}, Bits: 129}, {A: addr.Four([4]byte{10, 1}), Bits: 8}, {A: api.Addr{V: 4, B: [16]byte{4: 1}}, Bits: 32},
	} {
		if got := cidr.Text(p); got != "" {
			t.Errorf("Text(%v): %s", p, got)
		}
	}
}

// P11.4, P11.5: what is parsed, by its text. The first two are the chapter's examples.
func TestParse(t *testing.T) {
	for s, want := range map[string]string{
		"10.1.2.3/8":         "10.0.0.0/8",
		"::1":                "::1/128",
		"1.2.3.4":            "1.2.3.4/32",
		"0.0.0.0":            "0.0.0.0/32",
		"::":                 "::/128",
		"1.2.3.4/0":          "0.0.0.0/0",
		"1.2.3.4/32":         "1.2.3.4/32",
		"255.255.255.255/1":  "128.0.0.0/1",
		"ffff::/1":           "8000::/1",
		"ffff::1/0":          "::/0",
		"2001:DB8::1/33":     "2001:db8::/33",
		"::ffff:1.2.3.4/120": "::ffff:102:300/120",
		"::1/128":            "::1/128",
		"::1/127":            "::/127",
		"::1:0:0/33":         "::/33",
	} {
		p := parsed(t, s)
		if got := cidr.Text(p); got != want || !cidr.Right(p) {
			t.Errorf("Parse(%s): %s, %v", s, got, p)
		}
		if parsed(t, want) != p {
			t.Errorf("Parse(%s) is not Parse(%s)", s, want)
		}
	}
}

// P11.4: the address's error first, then that of the number.
func TestParseWrong(t *testing.T) {
	for s, want := range map[string]api.Errno{
		"":                                 api.ErrForm,
		"/":                                api.ErrForm,
		"/8":                               api.ErrForm,
		"8":                                api.ErrForm,
		"10.0.0.0/":                        api.ErrForm,
		"10.0.0.0/08":                      api.ErrForm,
		"10.0.0.0/00":                      api.ErrForm,
		"10.0.0.0/-1":                      api.ErrForm,
		"10.0.0.0/+8":                      api.ErrForm,
		"10.0.0.0/ 8":                      api.ErrForm,
		"10.0.0.0 /8":                      api.ErrForm,
		"10.0.0.0/8 ":                      api.ErrForm,
		"10.0.0.0/8/8":                     api.ErrForm,
		"10.0.0.0//8":                      api.ErrForm,
		"10.0.0.0/255.0.0.0":               api.ErrForm,
		"10.0.0/8":                         api.ErrForm,
		"10/8":                             api.ErrForm,
		"10.0.0.0/33":                      api.ErrRange,
		"10.0.0.0/128":                     api.ErrRange,
		"10.0.0.0/18446744073709551624":    api.ErrRange,
		"10.0.0.256":                       api.ErrRange,
		"10.0.0.256/8":                     api.ErrRange,
		"10.0.0.256/x":                     api.ErrRange,
		"10.0.0.256/":                      api.ErrRange,
		"10.0.0.x/33":                      api.ErrForm,
		"::/129":                           api.ErrRange,
		"::/":                              api.ErrForm,
		"::/0128":                          api.ErrForm,
		"::x/129":                          api.ErrForm,
		"::1.2.3.256/8":                    api.ErrForm,
		"1::2::3/8":                        api.ErrForm,
		"10.0.0.0/99999999999999999999999": api.ErrRange,
	} {
		if p, fail := cidr.Parse(s); p != (api.Prefix{}) || fail != want {
			t.Errorf("Parse(%q): %v, %v", s, p, fail)
		}
	}
}
