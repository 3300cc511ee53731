package allowed_test

import (
	"math"
	"math/rand"
	"slices"
	"testing"

	"crawlway/addr"
	"crawlway/allowed"
	"crawlway/api"
	"crawlway/cidr"
)

// of is the prefix of a text.
func of(t *testing.T, s string) api.Prefix {
	t.Helper()
	p, fail := cidr.Parse(s)
	if fail != api.OK {
		t.Fatalf("Parse(%s): %v", s, fail)
	}
	return p
}

// put lets somebody own prefixes, one behind the other.
func put(t *testing.T, x *allowed.Table, owner int, texts ...string) {
	t.Helper()
	for _, s := range texts {
		if fail := x.Put(of(t, s), owner); fail != api.OK {
			t.Fatalf("Put(%s): %v", s, fail)
		}
	}
}

// texts are those of prefixes.
func texts(l []api.Prefix) []string {
	var list []string
	for _, p := range l {
		list = append(list, cidr.Text(p))
	}
	return list
}

// owns asks for all that somebody owns, in order.
func owns(t *testing.T, x *allowed.Table, owner int, want ...string) {
	t.Helper()
	if got := texts(x.Of(owner)); !slices.Equal(got, want) {
		t.Errorf("Of(%d): %v, not %v", owner, got, want)
	}
}

// finds asks for an address's owner; of 0 there is none.
func finds(t *testing.T, x *allowed.Table, s string, want int) {
	t.Helper()
	a, _ := addr.Parse(s)
	if got, is := x.Find(a); got != want || is != (want != 0) {
		t.Errorf("Find(%s): %d, %t, not %d", s, got, is, want)
	}
}

// nth is one of many prefixes, of both families by turns.
func nth(i int) api.Prefix {
	if i%2 == 0 {
		return cidr.Whole(addr.Four([4]byte{10, 0, 0, byte(i)}))
	}
	return cidr.Whole(addr.Six([16]byte{10, 15: byte(i)}))
}

// full is a table of 64 entries, of 1, 2 and 3 by turns.
func full(t *testing.T) *allowed.Table {
	t.Helper()
	x := allowed.New()
	for i := range api.MaxPrefixes {
		if fail := x.Put(nth(i), i%3+1); fail != api.OK || x.Len() != i+1 {
			t.Fatalf("Put, %d: %v", i, fail)
		}
	}
	return x
}

// P26.1: a prefix has one owner, whoever owned it before.
func TestPut(t *testing.T) {
	x := allowed.New()
	if x.Len() != 0 || len(x.All()) != 0 {
		t.Errorf("New: %v", x.All())
	}
	put(t, x, 1, "10.0.0.0/8", "::/0", "10.0.0.0/8")
	put(t, x, 2, "10.0.0.0/9", "10.0.0.0/8")
	put(t, x, math.MinInt, "0.0.0.0/0")
	put(t, x, 0, "::1")
	owns(t, x, 1, "::/0")
	owns(t, x, 2, "10.0.0.0/8", "10.0.0.0/9")
	owns(t, x, math.MinInt, "0.0.0.0/0")
	owns(t, x, 0, "::1/128")
	owns(t, x, 3)
	if x.Len() != 5 {
		t.Errorf("Len: %d", x.Len())
	}
}

// P26.1, R4: what is not right changes nothing, of a full table too.
func TestWrong(t *testing.T) {
	some := allowed.New()
	put(t, some, 1, "0.0.0.0/0", "::/0")
	for _, x := range []*allowed.Table{some, full(t)} {
		was := x.All()
		for _, p := range []api.Prefix{
			{}, {A: api.Addr{V: 5}}, {A: api.Addr{V: 4}, Bits: -1}, {A: api.Addr{V: 4}, Bits: 33}, {A: api.Addr{V: 6}, Bits: 129}, {A: api.Addr{V: 6}, Bits: math.MinInt},
			{A: api.Addr{V: 4, B: [16]byte{4: 1}}, Bits: 32}, {A: api.Addr{V: 4, B: [16]byte{10, 1}}, Bits: 8}, {A: api.Addr{V: 6, B: [16]byte{15: 1}}, Bits: 127},
		} {
			if fail := x.Put(p, 9); fail != api.ErrArg {
				t.Errorf("Put(%v): %v", p, fail)
			}
		}
		if !slices.Equal(x.All(), was) {
			t.Errorf("All: %v, not %v", x.All(), was)
		}
	}
}

// P26.1: 64 entries of both families together, and no more; those that are there can change hands.
func TestFull(t *testing.T) {
	x := full(t)
	was := x.All()
	for _, s := range []string{"0.0.0.0/0", "::/0", "10.0.0.0/31"} {
		if fail := x.Put(of(t, s), 1); fail != api.ErrFull {
			t.Errorf("Put(%s): %v", s, fail)
		}
	}
	if !slices.Equal(x.All(), was) || x.Len() != 64 {
		t.Errorf("All: %v", x.All())
	}
	finds(t, x, "9.9.9.9", 0)
	finds(t, x, "9::", 0)
	for i := range api.MaxPrefixes {
		if fail := x.Put(nth(i), 7); fail != api.OK || x.Len() != 64 {
			t.Errorf("Put, %d: %v", i, fail)
		}
	}
	if n := len(x.Of(7)); n != 64 {
		t.Errorf("Of: %d", n)
	}
	if n := x.Drop(7); n != 64 || x.Len() != 0 {
		t.Errorf("Drop: %d", n)
	}
	put(t, x, 1, "::/0")
}

// P26.2: all that one owns goes, and nothing else.
func TestDrop(t *testing.T) {
	x := allowed.New()
	put(t, x, 1, "10.0.0.0/8", "2001::/16", "10.1.2.0/24")
	put(t, x, 2, "10.1.0.0/16", "::/0", "10.0.0.0/9")
	for _, owner := range []int{0, 3, -1, math.MaxInt} {
		if n := x.Drop(owner); n != 0 || x.Len() != 6 {
			t.Errorf("Drop(%d): %d", owner, n)
		}
	}
	put(t, x, 2, "10.1.2.0/24")
	if n := x.Drop(1); n != 2 {
		t.Errorf("Drop: %d", n)
	}
	if n := x.Drop(1); n != 0 {
		t.Errorf("Drop, once more: %d", n)
	}
	owns(t, x, 1)
	owns(t, x, 2, "10.0.0.0/9", "10.1.0.0/16", "10.1.2.0/24", "::/0")
	finds(t, x, "10.128.0.0", 0)
	finds(t, x, "10.1.2.3", 2)
	finds(t, x, "2001::1", 2)
	put(t, x, 1, "10.0.0.0/8")
	finds(t, x, "10.128.0.0", 1)
}

// P26.3: the owner of the longest prefix, of the address's own family.
func TestFind(t *testing.T) {
	x := allowed.New()
	put(t, x, 1, "10.0.0.0/8", "10.1.2.3")
	put(t, x, 2, "10.1.0.0/16")
	finds(t, x, "10.2.0.0", 1)
	finds(t, x, "10.1.0.0", 2)
	finds(t, x, "10.1.2.3", 1)
	finds(t, x, "11.0.0.0", 0)
	finds(t, x, "a01:203::", 0)
	put(t, x, 3, "::/0")
	put(t, x, 4, "0.0.0.0/0", "a00::/8")
	finds(t, x, "11.0.0.0", 4)
	finds(t, x, "a01:203::", 4)
	finds(t, x, "b01:203::", 3)
	for _, a := range []api.Addr{{}, {V: 5}, {V: -4}, {V: 7}, {V: 4, B: [16]byte{10, 4: 1}}, {V: math.MaxInt}} {
		if owner, is := x.Find(a); owner != 0 || is {
			t.Errorf("Find(%v): %d, %t", a, owner, is)
		}
	}
	y := allowed.New()
	y.Put(of(t, "::/0"), 0)
	if owner, is := y.Find(api.Addr{V: 6}); owner != 0 || !is {
		t.Errorf("Find of whom 0 owns: %d, %t", owner, is)
	}
}

// P26.3: family 4 first, then by the address and the Bits, however they came.
func TestOrder(t *testing.T) {
	order := []string{"0.0.0.0/0", "0.0.0.0/32", "9.0.0.0/8", "10.0.0.0/7", "10.0.0.0/8", "10.1.0.0/16", "128.0.0.0/1", "255.255.255.255/32", "::/0", "::/128", "::1/128", "100::/8", "2001:db8::/32", "2001:db8::/33", "ffff::/16"}
	for seed := range 20 {
		x := allowed.New()
		for _, i := range rand.New(rand.NewSource(int64(seed))).Perm(len(order)) {
			put(t, x, i%2, order[i])
		}
		var all [2][]string
		for i, e := range x.All() {
			if cidr.Text(e.P) != order[i] || e.Owner != i%2 {
				t.Errorf("All, %d: %v, not %s", i, e, order[i])
			}
			all[i%2] = append(all[i%2], order[i])
		}
		if x.Len() != len(order) || len(x.All()) != len(order) {
			t.Errorf("All: %v", x.All())
		}
		owns(t, x, 0, all[0]...)
		owns(t, x, 1, all[1]...)
	}
}

// P26.4, R7: each of both goes its own way, and has the same room.
func TestCopy(t *testing.T) {
	x := allowed.New()
	put(t, x, 1, "10.0.0.0/8", "::/0")
	put(t, x, 2, "10.1.0.0/16")
	c := x.Copy()
	if !slices.Equal(c.All(), x.All()) {
		t.Errorf("Copy: %v, not %v", c.All(), x.All())
	}
	finds(t, c, "10.1.2.3", 2)
	c.Drop(1)
	put(t, c, 3, "10.1.0.0/16", "11.0.0.0/8")
	owns(t, x, 1, "10.0.0.0/8", "::/0")
	owns(t, x, 2, "10.1.0.0/16")
	finds(t, x, "10.1.2.3", 2)
	finds(t, x, "11.0.0.0", 0)
	finds(t, x, "::1", 1)
	put(t, x, 4, "12.0.0.0/8", "11.0.0.0/8")
	x.Drop(2)
	owns(t, c, 3, "10.1.0.0/16", "11.0.0.0/8")
	finds(t, c, "10.1.2.3", 3)
	finds(t, c, "12.0.0.0", 0)
	finds(t, c, "::1", 0)
	filled := full(t).Copy()
	if fail := filled.Put(of(t, "::/0"), 1); fail != api.ErrFull || filled.Len() != 64 {
		t.Errorf("Put to a copy: %v", fail)
	}
	if empty := allowed.New().Copy(); empty.Len() != 0 || empty.Put(of(t, "::/0"), 1) != api.OK {
		t.Errorf("Copy of an empty one: %v", empty)
	}
}

// P26.1 to P26.4: whatever is put and dropped, it answers as a plain list of entries does.
func TestModel(t *testing.T) {
	source := rand.New(rand.NewSource(26))
	x, list := allowed.New(), map[api.Prefix]int{}
	for range 5000 {
		p := nth(source.Intn(150))
		p, _ = cidr.Of(p.A, addr.Width(p.A)-source.Intn(3))
		owner := source.Intn(12)
		_, is := list[p]
		switch {
		case source.Intn(20) == 0:
			n := len(list)
			for q, who := range list {
				if who == owner {
					delete(list, q)
				}
			}
			if got := x.Drop(owner); got != n-len(list) {
				t.Fatalf("Drop(%d): %d, not %d", owner, got, n-len(list))
			}
		case !is && len(list) == 64:
			if fail := x.Put(p, owner); fail != api.ErrFull {
				t.Fatalf("Put(%v): %v", p, fail)
			}
		default:
			list[p] = owner
			if fail := x.Put(p, owner); fail != api.OK {
				t.Fatalf("Put(%v): %v", p, fail)
			}
		}
		agrees(t, x, list, owner, p.A)
		if source.Intn(50) == 0 {
			x = x.Copy()
		}
	}
}

// agrees holds a table against a list, and asks both for an owner and an address.
func agrees(t *testing.T, x *allowed.Table, list map[api.Prefix]int, owner int, a api.Addr) {
	t.Helper()
	all := x.All()
	if len(all) != len(list) || x.Len() != len(list) {
		t.Fatalf("All: %v, not %v", all, list)
	}
	var own []api.Prefix
	longest, found := api.Entry{}, false
	for i, e := range all {
		if who, is := list[e.P]; !is || who != e.Owner || i > 0 && !cidr.Less(all[i-1].P, e.P) {
			t.Fatalf("All: %v, not %v", all, list)
		}
		if e.Owner == owner {
			own = append(own, e.P)
		}
		if cidr.Has(e.P, a) && (!found || e.P.Bits > longest.P.Bits) {
			longest, found = e, true
		}
	}
	if got := x.Of(owner); !slices.Equal(got, own) {
		t.Fatalf("Of(%d): %v, not %v", owner, got, own)
	}
	if got, is := x.Find(a); got != longest.Owner || is != found {
		t.Fatalf("Find(%v): %d, %t, not %v", a, got, is, longest)
	}
}

// R2: what is answered is new.
func TestAnew(t *testing.T) {
	x := allowed.New()
	put(t, x, 1, "10.0.0.0/8", "::/0")
	for i := range 2 {
		x.All()[i] = api.Entry{}
		x.Of(1)[i] = api.Prefix{}
	}
	owns(t, x, 1, "10.0.0.0/8", "::/0")
	if l := x.All(); len(l) != 2 || l[1] != (api.Entry{P: of(t, "::/0"), Owner: 1}) {
		t.Errorf("All: %v", l)
	}
}

// P1, P26.4: of nil, of a zero table and of a copy of it.
func TestNil(t *testing.T) {
	var none *allowed.Table
	if none.Copy() != nil {
		t.Errorf("Copy of nil: %v", none.Copy())
	}
	zero := &allowed.Table{}
	if zero.Copy() == nil {
		t.Error("Copy of a zero table: nil")
	}
	for _, x := range []*allowed.Table{none, zero, zero.Copy()} {
		for _, p := range []api.Prefix{{}, of(t, "10.0.0.0/8"), of(t, "::/0")} {
			if fail := x.Put(p, 0); fail != api.ErrNil {
				t.Errorf("Put(%v): %v", p, fail)
			}
			if owner, is := x.Find(p.A); owner != 0 || is {
				t.Errorf("Find(%v): %d, %t", p.A, owner, is)
			}
		}
		if x.Drop(0) != 0 || x.Len() != 0 || len(x.All()) != 0 || len(x.Of(0)) != 0 {
			t.Errorf("All: %v", x.All())
		}
	}
}

// The chapter's example.
func TestExample(t *testing.T) {
	x := allowed.New()
	put(t, x, 1, "10.0.0.0/8")
	put(t, x, 2, "10.0.0.0/8")
	owns(t, x, 1)
	owns(t, x, 2, "10.0.0.0/8")
	finds(t, x, "10.1.2.3", 2)
}
