package roster_test

import (
	"math"
	"math/rand"
	"slices"
	"testing"

	"crawlway/api"
	"crawlway/roster"
)

// key is one of many keys; the first one is the zero key.
func key(i int) api.Key { return api.Key{0: byte(i), 31: byte(i * i)} }

// entry is a key with its number.
type entry struct {
	k  api.Key
	id int
}

// holds holds a roster against entries in order, and asks it for each of them.
func holds(t *testing.T, r *roster.Roster, want ...entry) {
	t.Helper()
	keys := r.Keys()
	if len(keys) != len(want) || r.Len() != len(want) {
		t.Fatalf("Keys: %v, not %v", keys, want)
	}
	for i, e := range want {
		if keys[i] != e.k {
			t.Errorf("Keys, %d: %v, not %v", i, keys[i], e.k)
		}
		if id, is := r.Id(e.k); id != e.id || !is {
			t.Errorf("Id(%v): %d, %t, not %d", e.k, id, is, e.id)
		}
		if k, is := r.Key(e.id); k != e.k || !is {
			t.Errorf("Key(%d): %v, %t, not %v", e.id, k, is, e.k)
		}
	}
}

// lacks asks for a key, and for a number, that are not there.
func lacks(t *testing.T, r *roster.Roster, k api.Key, id int) {
	t.Helper()
	if id, is := r.Id(k); id != 0 || is {
		t.Errorf("Id(%v): %d, %t", k, id, is)
	}
	if k, is := r.Key(id); k != (api.Key{}) || is {
		t.Errorf("Key(%d): %v, %t", id, k, is)
	}
}

// adds adds a key, and asks for its number.
func adds(t *testing.T, r *roster.Roster, i, want int) {
	t.Helper()
	if id, fail := r.Add(key(i)); id != want || fail != api.OK {
		t.Errorf("Add(%d): %d, %v, not %d", i, id, fail, want)
	}
}

// refuses adds a key that can't be.
func refuses(t *testing.T, r *roster.Roster, k api.Key, want api.Errno) {
	t.Helper()
	if id, fail := r.Add(k); id != 0 || fail != want {
		t.Errorf("Add(%v): %d, %v, not %v", k, id, fail, want)
	}
}

// P27.1: numbers rise from 1 on, whatever goes.
func TestAddDrop(t *testing.T) {
	r := roster.New()
	holds(t, r)
	adds(t, r, 5, 1)
	adds(t, r, 0, 2)
	adds(t, r, 3, 3)
	refuses(t, r, key(0), api.ErrTwice)
	holds(t, r, entry{key(5), 1}, entry{key(0), 2}, entry{key(3), 3})
	if fail := r.Drop(key(0)); fail != api.OK {
		t.Errorf("Drop: %v", fail)
	}
	lacks(t, r, key(0), 2)
	if fail := r.Drop(key(0)); fail != api.ErrNone {
		t.Errorf("Drop, once more: %v", fail)
	}
	if fail := r.Drop(key(9)); fail != api.ErrNone {
		t.Errorf("Drop of what never came: %v", fail)
	}
	holds(t, r, entry{key(5), 1}, entry{key(3), 3})
	r.Drop(key(3))
	adds(t, r, 0, 4)
	adds(t, r, 3, 5)
	holds(t, r, entry{key(5), 1}, entry{key(0), 4}, entry{key(3), 5})
}

// P27.1: 16 keys, and no more; ErrTwice goes ahead of ErrFull, and what fails takes no number.
func TestFull(t *testing.T) {
	r := roster.New()
	var want []entry
	for i := range api.MaxPeers {
		adds(t, r, i, i+1)
		want = append(want, entry{key(i), i + 1})
	}
	refuses(t, r, key(16), api.ErrFull)
	refuses(t, r, key(0), api.ErrTwice)
	refuses(t, r, key(15), api.ErrTwice)
	holds(t, r, want...)
	r.Drop(key(4))
	adds(t, r, 16, 17)
	holds(t, r, append(slices.Delete(want, 4, 5), entry{key(16), 17})...)
}

// P27.1: none is there any more, and numbers go on.
func TestClear(t *testing.T) {
	r := roster.New()
	if n := r.Clear(); n != 0 {
		t.Errorf("Clear: %d", n)
	}
	for round := range 3 {
		for i := range 16 {
			adds(t, r, i, 16*round+i+1)
		}
		if n := r.Clear(); n != 16 {
			t.Errorf("Clear: %d", n)
		}
		holds(t, r)
		lacks(t, r, key(1), 16*round+2)
		if n := r.Clear(); n != 0 {
			t.Errorf("Clear, once more: %d", n)
		}
	}
}

// P27.2: keys and numbers that are not there.
func TestLacks(t *testing.T) {
	r := roster.New()
	lacks(t, r, api.Key{}, 0)
	adds(t, r, 7, 1)
	adds(t, r, 8, 2)
	r.Drop(key(7))
	for _, id := range []int{0, 1, 3, -1, -2, math.MaxInt, math.MinInt} {
		lacks(t, r, key(7), id)
		lacks(t, r, api.Key{}, id)
	}
	almost := key(8)
	almost[31]++
	lacks(t, r, almost, 3)
}

// P27.3, R7: each of both goes its own way, and their numbers go on likewise.
func TestCopy(t *testing.T) {
	r := roster.New()
	adds(t, r, 1, 1)
	adds(t, r, 2, 2)
	adds(t, r, 3, 3)
	r.Drop(key(3))
	c := r.Copy()
	holds(t, c, entry{key(1), 1}, entry{key(2), 2})
	adds(t, c, 4, 4)
	c.Drop(key(1))
	holds(t, r, entry{key(1), 1}, entry{key(2), 2})
	adds(t, r, 5, 4)
	adds(t, r, 6, 5)
	r.Drop(key(2))
	holds(t, c, entry{key(2), 2}, entry{key(4), 4})
	if c.Clear() != 2 || r.Len() != 3 {
		t.Errorf("Clear of a copy: %v", r.Keys())
	}
	adds(t, c.Copy(), 7, 5)
	empty := roster.New().Copy()
	adds(t, empty, 1, 1)
}

// P27.1 to P27.3: whatever is done, it answers as a plain list does.
func TestModel(t *testing.T) {
	source := rand.New(rand.NewSource(27))
	r, list, last := roster.New(), []entry{}, 0
	for range 5000 {
		k := key(source.Intn(24))
		i := slices.IndexFunc(list, func(e entry) bool { return e.k == k })
		switch choice := source.Intn(100); {
		case choice == 0:
			if n := r.Clear(); n != len(list) {
				t.Fatalf("Clear: %d, not %d", n, len(list))
			}
			list = nil
		case choice < 5:
			r = r.Copy()
		case choice < 35:
			want := api.ErrNone
			if i >= 0 {
				list, want = slices.Delete(list, i, i+1), api.OK
			}
			if fail := r.Drop(k); fail != want {
				t.Fatalf("Drop: %v, not %v", fail, want)
			}
		case i >= 0:
			refuses(t, r, k, api.ErrTwice)
		case len(list) == 16:
			refuses(t, r, k, api.ErrFull)
		default:
			last++
			list = append(list, entry{k, last})
			if id, fail := r.Add(k); id != last || fail != api.OK {
				t.Fatalf("Add: %d, %v, not %d", id, fail, last)
			}
		}
		holds(t, r, list...)
	}
}

// R2: what is answered is new.
func TestAnew(t *testing.T) {
	r := roster.New()
	adds(t, r, 1, 1)
	adds(t, r, 2, 2)
	r.Keys()[0] = key(9)
	holds(t, r, entry{key(1), 1}, entry{key(2), 2})
}

// P1, P27.3: of nil, of a zero roster and of a copy of it.
func TestNil(t *testing.T) {
	var none *roster.Roster
	if none.Copy() != nil {
		t.Errorf("Copy of nil: %v", none.Copy())
	}
	zero := &roster.Roster{}
	if zero.Copy() == nil {
		t.Error("Copy of a zero roster: nil")
	}
	for _, r := range []*roster.Roster{none, zero, zero.Copy()} {
		for i := range 20 {
			refuses(t, r, key(i), api.ErrNil)
			if fail := r.Drop(key(i)); fail != api.ErrNil {
				t.Errorf("Drop: %v", fail)
			}
			lacks(t, r, key(i), i)
		}
		if n := r.Clear(); n != 0 {
			t.Errorf("Clear: %d", n)
		}
		holds(t, r)
	}
}

// The chapter's example.
func TestExample(t *testing.T) {
	r := roster.New()
	adds(t, r, 1, 1)
	adds(t, r, 2, 2)
	r.Drop(key(1))
	adds(t, r, 1, 3)
	holds(t, r, entry{key(2), 2}, entry{key(1), 3})
}
