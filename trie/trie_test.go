package trie_test

import (
	"math"
	"math/rand"
	"slices"
	"testing"

	"crawlway/addr"
	"crawlway/api"
	"crawlway/cidr"
	"crawlway/trie"
)

// at is the address of a text.
func at(t *testing.T, s string) api.Addr {
	t.Helper()
	a, fail := addr.Parse(s)
	if fail != api.OK {
		t.Fatalf("Parse(%s): %v", s, fail)
	}
	return a
}

// of is the prefix of a text.
func of(t *testing.T, s string) api.Prefix {
	t.Helper()
	p, fail := cidr.Parse(s)
	if fail != api.OK {
		t.Fatalf("Parse(%s): %v", s, fail)
	}
	return p
}

// filled is a trie of prefixes, owned by 1 and so on.
func filled(t *testing.T, family int, texts ...string) *trie.Trie {
	t.Helper()
	x := trie.New(family)
	for i, s := range texts {
		if fail := x.Put(of(t, s), i+1); fail != api.OK {
			t.Fatalf("Put(%s): %v", s, fail)
		}
	}
	return x
}

// wrong are prefixes that are not right.
func wrong() []api.Prefix {
	return []api.Prefix{
		{}, {Bits: 8}, {A: api.Addr{V: 5}}, {A: api.Addr{V: -4}}, {A: api.Addr{V: math.MaxInt}, Bits: math.MaxInt},
		{A: api.Addr{V: 4}, Bits: -1}, {A: api.Addr{V: 4}, Bits: 33}, {A: api.Addr{V: 4}, Bits: math.MinInt}, {A: api.Addr{V: 4}, Bits: math.MaxInt},
		{A: api.Addr{V: 6}, Bits: -1}, {A: api.Addr{V: 6}, Bits: 129}, {A: api.Addr{V: 6}, Bits: math.MinInt}, {A: api.Addr{V: 6}, Bits: math.MaxInt},
		{A: api.Addr{V: 4, B: [16]byte{4: 1}}, Bits: 32}, {A: api.Addr{V: 4, B: [16]byte{10, 1}}, Bits: 8}, {A: api.Addr{V: 6, B: [16]byte{15: 1}}, Bits: 127},
	}
}

// P25.1: a trie of each family, without entries, and of no other one.
func TestNew(t *testing.T) {
	for _, family := range []int{4, 6} {
		x := trie.New(family)
		if x == nil || x.Len() != 0 || len(x.All()) != 0 {
			t.Errorf("New(%d): %v", family, x)
		}
	}
	for _, family := range []int{0, 1, 3, 5, 7, 32, 46, 128, -4, -6, math.MinInt, math.MaxInt} {
		if x := trie.New(family); x != nil {
			t.Errorf("New(%d): %v", family, x)
		}
	}
}

// P25.2: each prefix has one owner, the last one that was put, and none once it is dropped.
func TestPutGetDrop(t *testing.T) {
	for family, texts := range map[int][]string{
		4: {"0.0.0.0/0", "0.0.0.0/1", "128.0.0.0/1", "10.0.0.0/8", "10.0.0.0/9", "10.128.0.0/9", "10.1.2.2/31", "10.1.2.3/32", "10.1.2.2/32", "255.255.255.255/32"},
		6: {"::/0", "::/1", "8000::/1", "2001:db8::/32", "2001:db8::/33", "::1/128", "::/128", "::/127", "ffff:ffff:ffff:ffff:ffff:ffff:ffff:ffff/128"},
	} {
		for _, s := range texts {
			x, p := trie.New(family), of(t, s)
			for _, owner := range []int{7, 0, -1, math.MaxInt, math.MinInt} {
				if fail := x.Put(p, owner); fail != api.OK {
					t.Errorf("Put(%s): %v", s, fail)
				}
				if got, is := x.Get(p); got != owner || !is || x.Len() != 1 {
					t.Errorf("Get(%s): %d, %t of %d", s, got, is, x.Len())
				}
			}
			for _, other := range texts {
				if got, is := x.Get(of(t, other)); other != s && (got != 0 || is) {
					t.Errorf("Get(%s), where %s is: %d, %t", other, s, got, is)
				}
				if fail := x.Drop(of(t, other)); other != s && fail != api.ErrNone {
					t.Errorf("Drop(%s), where %s is: %v", other, s, fail)
				}
				x.Put(p, 7)
			}
			if fail := x.Drop(p); fail != api.OK {
				t.Errorf("Drop(%s): %v", s, fail)
			}
			if got, is := x.Get(p); got != 0 || is || x.Len() != 0 {
				t.Errorf("Get(%s), dropped: %d, %t", s, got, is)
			}
			if fail := x.Drop(p); fail != api.ErrNone {
				t.Errorf("Drop(%s), dropped: %v", s, fail)
			}
		}
	}
}

// P25.2, R4: what is not right, or of the other family, changes nothing.
func TestWrong(t *testing.T) {
	for family, texts := range map[int][3]string{4: {"0.0.0.0/0", "10.0.0.0/8", "::/0"}, 6: {"::/0", "2001:db8::/32", "0.0.0.0/0"}} {
		x := filled(t, family, texts[0], texts[1])
		was := x.All()
		for _, p := range append(wrong(), of(t, texts[2])) {
			if fail := x.Put(p, 9); fail != api.ErrArg {
				t.Errorf("Put(%v): %v", p, fail)
			}
			if fail := x.Drop(p); fail != api.ErrArg {
				t.Errorf("Drop(%v): %v", p, fail)
			}
			if owner, is := x.Get(p); owner != 0 || is {
				t.Errorf("Get(%v): %d, %t", p, owner, is)
			}
		}
		x.Drop(cidr.Whole(was[1].P.A))
		if !slices.Equal(x.All(), was) {
			t.Errorf("All: %v, not %v", x.All(), was)
		}
	}
}

// finds asks for the prefix that is found, none if its text is empty.
func finds(t *testing.T, x *trie.Trie, a, want string) {
	t.Helper()
	e, is := x.Find(at(t, a))
	if cidr.Text(e.P) != want || is != (want != "") {
		t.Errorf("Find(%s): %s, %t, not %s", a, cidr.Text(e.P), is, want)
	}
	if owner, _ := x.Get(e.P); e.Owner != owner {
		t.Errorf("Find(%s): of %d, not %d", a, e.Owner, owner)
	}
}

// P25.3: the longest prefix that has an address.
func TestFind(t *testing.T) {
	x := filled(t, 4, "10.0.0.0/8", "10.1.0.0/16", "10.1.2.3/32", "10.1.2.2/31", "11.0.0.0/9")
	finds(t, x, "10.0.0.0", "10.0.0.0/8")
	finds(t, x, "10.255.255.255", "10.0.0.0/8")
	finds(t, x, "10.1.0.0", "10.1.0.0/16")
	finds(t, x, "10.1.255.255", "10.1.0.0/16")
	finds(t, x, "10.1.2.3", "10.1.2.3/32")
	finds(t, x, "10.1.2.2", "10.1.2.2/31")
	finds(t, x, "10.1.2.4", "10.1.0.0/16")
	finds(t, x, "11.127.255.255", "11.0.0.0/9")
	finds(t, x, "11.128.0.0", "")
	finds(t, x, "9.255.255.255", "")
	finds(t, x, "0.0.0.0", "")
	x.Put(of(t, "0.0.0.0/0"), 0)
	finds(t, x, "11.128.0.0", "0.0.0.0/0")
	finds(t, x, "255.255.255.255", "0.0.0.0/0")
	finds(t, x, "10.1.2.3", "10.1.2.3/32")
	x.Drop(of(t, "10.1.2.3/32"))
	finds(t, x, "10.1.2.3", "10.1.2.2/31")
	x.Drop(of(t, "10.0.0.0/8"))
	finds(t, x, "10.2.0.0", "0.0.0.0/0")
	finds(t, x, "10.1.2.3", "10.1.2.2/31")

	y := filled(t, 6, "::1/128", "::/64", "2001:db8::/32")
	finds(t, y, "::1", "::1/128")
	finds(t, y, "::2", "::/64")
	finds(t, y, "0:0:0:1::", "")
	finds(t, y, "2001:db8:ffff::1", "2001:db8::/32")
	finds(t, y, "2001:db9::", "")
	finds(t, y, "10.0.0.1", "")
	finds(t, x, "::", "")
}

// P25.3: of an address that is not right nothing is found.
func TestFindWrong(t *testing.T) {
	for _, x := range []*trie.Trie{filled(t, 4, "0.0.0.0/0", "10.0.0.0/8"), filled(t, 6, "::/0")} {
		for _, a := range []api.Addr{{}, {V: 5}, {V: -6}, {V: 7, B: [16]byte{10}}, {V: 4, B: [16]byte{10, 4: 1}}, {V: 4, B: [16]byte{15: 1}}, {V: math.MinInt}} {
			if e, is := x.Find(a); e != (api.Entry{}) || is {
				t.Errorf("Find(%v): %v, %t", a, e, is)
			}
		}
	}
}

// P25.4: all entries, by the address, and then by the Bits, however they came.
func TestAll(t *testing.T) {
	for family, order := range map[int][]string{
		4: {"0.0.0.0/0", "0.0.0.0/1", "0.0.0.0/32", "9.0.0.0/8", "10.0.0.0/7", "10.0.0.0/8", "10.0.0.0/32", "10.1.0.0/16", "128.0.0.0/1", "255.0.0.0/8", "255.255.255.255/32"},
		6: {"::/0", "::/128", "::1/128", "100::/8", "2001:db8::/32", "2001:db8::/33", "2001:db8:1::/48", "8000::/1", "ffff::/16"},
	} {
		for seed := range 20 {
			x := trie.New(family)
			for n, i := range rand.New(rand.NewSource(int64(seed))).Perm(len(order)) {
				x.Put(of(t, order[i]), i)
				if x.Len() != n+1 {
					t.Errorf("Len: %d, not %d", x.Len(), n+1)
				}
			}
			for i, e := range x.All() {
				if e != (api.Entry{P: of(t, order[i]), Owner: i}) {
					t.Errorf("All, %d: %v, not %s", i, e, order[i])
				}
			}
			if len(x.All()) != len(order) {
				t.Errorf("All: %v", x.All())
			}
		}
	}
}

// P25.2 to P25.4: whatever is put and dropped, it answers as a plain list of entries does.
func TestModel(t *testing.T) {
	for _, family := range []int{4, 6} {
		source := rand.New(rand.NewSource(int64(25 + family)))
		x, list := trie.New(family), map[api.Prefix]int{}
		for range 4000 {
			p := some(source, family)
			if source.Intn(2) == 0 {
				owner := source.Intn(5)
				list[p] = owner
				if fail := x.Put(p, owner); fail != api.OK {
					t.Fatalf("Put(%v): %v", p, fail)
				}
			} else {
				_, is := list[p]
				delete(list, p)
				if fail := x.Drop(p); is != (fail == api.OK) || !is && fail != api.ErrNone {
					t.Fatalf("Drop(%v), there %t: %v", p, is, fail)
				}
			}
			agrees(t, x, list, some(source, family))
		}
	}
}

// some is one of few prefixes, so that they meet: some bits at both ends of an address, and of any length.
func some(source *rand.Rand, family int) api.Prefix {
	a := api.Addr{V: family}
	a.B[0] = byte(source.Intn(4) << 6)
	a.B[addr.Width(a)/8-1] = byte(source.Intn(4))
	bits := []int{0, 1, 2, 3, 8, addr.Width(a) - 2, addr.Width(a) - 1, addr.Width(a)}
	p, _ := cidr.Of(a, bits[source.Intn(len(bits))])
	return p
}

// agrees holds a trie against a list, and asks both for a prefix and its address.
func agrees(t *testing.T, x *trie.Trie, list map[api.Prefix]int, p api.Prefix) {
	t.Helper()
	all := x.All()
	if len(all) != len(list) || x.Len() != len(list) {
		t.Fatalf("All: %v, not %v", all, list)
	}
	longest, found := api.Entry{}, false
	for i, e := range all {
		if owner, is := list[e.P]; !is || owner != e.Owner || i > 0 && !cidr.Less(all[i-1].P, e.P) {
			t.Fatalf("All: %v, not %v", all, list)
		}
		if cidr.Has(e.P, p.A) && (!found || e.P.Bits > longest.P.Bits) {
			longest, found = e, true
		}
	}
	if e, is := x.Find(p.A); e != longest || is != found {
		t.Fatalf("Find(%v): %v, %t, not %v", p.A, e, is, longest)
	}
	owner, is := x.Get(p)
	if want, there := list[p]; owner != want || is != there {
		t.Fatalf("Get(%v): %d, %t, not %d, %t", p, owner, is, want, there)
	}
}

// R2: what is answered is new.
func TestAnew(t *testing.T) {
	x := filled(t, 4, "10.0.0.0/8", "10.1.0.0/16")
	for i := range x.All() {
		l := x.All()
		l[i] = api.Entry{Owner: 99}
	}
	l := x.All()
	if len(l) != 2 || l[0] != (api.Entry{P: of(t, "10.0.0.0/8"), Owner: 1}) || l[1] != (api.Entry{P: of(t, "10.1.0.0/16"), Owner: 2}) {
		t.Errorf("All: %v", l)
	}
}

// R7: a copy goes its own way.
func TestCopy(t *testing.T) {
	x := filled(t, 4, "10.0.0.0/8", "10.1.0.0/16")
	y := *x
	y.Drop(of(t, "10.1.0.0/16"))
	y.Put(of(t, "10.0.0.0/8"), 7)
	x.Put(of(t, "10.2.0.0/16"), 3)
	if owner, _ := x.Get(of(t, "10.0.0.0/8")); owner != 1 || x.Len() != 3 {
		t.Errorf("what was copied: %v", x.All())
	}
	if owner, _ := y.Get(of(t, "10.0.0.0/8")); owner != 7 || y.Len() != 1 {
		t.Errorf("the copy: %v", y.All())
	}
}

// P1, P25.4: of nil nothing is answered, and ErrNil of what would change it. A zero Trie is of no family.
func TestNil(t *testing.T) {
	for _, c := range []struct {
		x    *trie.Trie
		want api.Errno
	}{{nil, api.ErrNil}, {trie.New(5), api.ErrNil}, {&trie.Trie{}, api.ErrArg}} {
		for _, p := range append(wrong(), of(t, "10.0.0.0/8"), of(t, "::/0")) {
			if fail := c.x.Put(p, 1); fail != c.want {
				t.Errorf("Put(%v): %v", p, fail)
			}
			if fail := c.x.Drop(p); fail != c.want {
				t.Errorf("Drop(%v): %v", p, fail)
			}
			if owner, is := c.x.Get(p); owner != 0 || is {
				t.Errorf("Get(%v): %d, %t", p, owner, is)
			}
			if e, is := c.x.Find(p.A); e != (api.Entry{}) || is {
				t.Errorf("Find(%v): %v, %t", p.A, e, is)
			}
		}
		if len(c.x.All()) != 0 || c.x.Len() != 0 {
			t.Errorf("All: %v", c.x.All())
		}
	}
}

// The chapter's example.
func TestExample(t *testing.T) {
	x := filled(t, 4, "10.0.0.0/8", "10.1.0.0/16")
	if e, is := x.Find(at(t, "10.1.2.3")); e.Owner != 2 || !is {
		t.Errorf("Find: %v, %t", e, is)
	}
}
