package sessions_test

import (
	"math"
	"math/rand"
	"slices"
	"testing"

	"crawlway/api"
	"crawlway/replay"
	"crawlway/sessions"
)

var one, two, three = api.Key{1}, api.Key{2}, api.Key{31: 1}

// installs installs a session, and asks how that went.
func installs(t *testing.T, x *sessions.Table, k api.Key, local uint32, want api.Errno) {
	t.Helper()
	if fail := x.Install(k, local, local+100, uint64(local)+1000); fail != want {
		t.Errorf("Install(%d): %v, not %v", local, fail, want)
	}
}

// current asks for the current session's number; below 0, there is none.
func current(t *testing.T, x *sessions.Table, k api.Key, want int) {
	t.Helper()
	s, is := x.Current(k)
	if is != (want >= 0) || is != (s != nil) {
		t.Errorf("Current(%v): %v, %t, not %d", k, s, is, want)
		return
	}
	if !is {
		return
	}
	if got, _ := x.Get(uint32(want)); got != s || s.Key != k || s.Local != uint32(want) {
		t.Errorf("Current(%v): %v, not %v", k, s, got)
	}
}

// locals asks for the numbers of all.
func locals(t *testing.T, x *sessions.Table, want ...uint32) {
	t.Helper()
	if got := x.Locals(); !slices.Equal(got, want) || x.Len() != len(want) {
		t.Errorf("Locals: %v, %d, not %v", got, x.Len(), want)
	}
	for _, local := range want {
		if s, is := x.Get(local); !is || s == nil || s.Local != local {
			t.Errorf("Get(%d): %v, %t", local, s, is)
		}
	}
}

// lacks asks for sessions that are not there.
func lacks(t *testing.T, x *sessions.Table, gone ...uint32) {
	t.Helper()
	for _, local := range gone {
		if s, is := x.Get(local); s != nil || is {
			t.Errorf("Get(%d): %v, %t", local, s, is)
		}
		if fail := x.Forget(local); fail != api.ErrNone {
			t.Errorf("Forget(%d): %v", local, fail)
		}
	}
}

// P31.1: sessions of what they were made of, none of which changes another one.
func TestInstall(t *testing.T) {
	x := sessions.New()
	locals(t, x)
	if fail := x.Install(one, 5, 6, 7); fail != api.OK {
		t.Errorf("Install: %v", fail)
	}
	if fail := x.Install(api.Key{}, 0, math.MaxUint32, replay.Limit); fail != api.OK {
		t.Errorf("Install: %v", fail)
	}
	s, _ := x.Get(5)
	z, _ := x.Get(0)
	if s.Key != one || s.Local != 5 || s.Remote != 6 || s.Spent() || s.Some() {
		t.Errorf("Get(5): %v", s)
	}
	if n, fail := s.Send(); n != 7 || fail != api.OK {
		t.Errorf("Send: %d, %v", n, fail)
	}
	if z.Key != (api.Key{}) || z.Local != 0 || z.Remote != math.MaxUint32 || !z.Spent() {
		t.Errorf("Get(0): %v", z)
	}
	current(t, x, api.Key{}, 0)
	current(t, x, one, 5)
	current(t, x, two, -1)
}

// P31.1: a number that is there can't be installed, be it the key's own, or one that would go.
func TestTwice(t *testing.T) {
	x := sessions.New()
	installs(t, x, one, 5, api.OK)
	installs(t, x, one, 5, api.ErrTwice)
	installs(t, x, two, 5, api.ErrTwice)
	installs(t, x, one, 6, api.OK)
	installs(t, x, one, 5, api.ErrTwice)
	installs(t, x, one, 6, api.ErrTwice)
	locals(t, x, 5, 6)
	current(t, x, one, 6)
	current(t, x, two, -1)
}

// P31.1: of a key the last two are there.
func TestTwo(t *testing.T) {
	x := sessions.New()
	installs(t, x, one, 9, api.OK)
	current(t, x, one, 9)
	installs(t, x, two, 8, api.OK)
	installs(t, x, one, 4, api.OK)
	current(t, x, one, 4)
	locals(t, x, 4, 8, 9)
	installs(t, x, one, 6, api.OK)
	current(t, x, one, 6)
	lacks(t, x, 9)
	locals(t, x, 4, 6, 8)
	installs(t, x, one, 9, api.OK)
	current(t, x, one, 9)
	lacks(t, x, 4)
	locals(t, x, 6, 8, 9)
	current(t, x, two, 8)
}

// full is a table of 32 sessions: two of each of fifteen keys, and one of each of two more.
func full(t *testing.T) *sessions.Table {
	t.Helper()
	x := sessions.New()
	for i := range uint32(17) {
		installs(t, x, api.Key{byte(i)}, i, api.OK)
	}
	for i := range uint32(15) {
		installs(t, x, api.Key{byte(i)}, 50+i, api.OK)
	}
	return x
}

// P31.1: 32 sessions, and no more; where one goes, one can come. ErrTwice goes ahead of ErrFull.
func TestFull(t *testing.T) {
	x := full(t)
	was := x.Locals()
	if x.Len() != api.MaxSessions {
		t.Errorf("Len: %d", x.Len())
	}
	installs(t, x, api.Key{99}, 99, api.ErrFull)
	installs(t, x, api.Key{15}, 99, api.ErrFull)
	installs(t, x, api.Key{99}, 64, api.ErrTwice)
	installs(t, x, api.Key{15}, 0, api.ErrTwice)
	installs(t, x, api.Key{3}, 3, api.ErrTwice)
	locals(t, x, was...)
	current(t, x, api.Key{15}, 15)
	current(t, x, api.Key{99}, -1)
	installs(t, x, api.Key{3}, 99, api.OK)
	lacks(t, x, 3)
	current(t, x, api.Key{3}, 99)
	if x.Len() != 32 {
		t.Errorf("Len: %d", x.Len())
	}
	x.Forget(7)
	installs(t, x, api.Key{15}, 98, api.OK)
	current(t, x, api.Key{15}, 98)
	installs(t, x, api.Key{7}, 97, api.ErrFull)
}

// P31.2: what is sent and taken by what is answered counts for all.
func TestGet(t *testing.T) {
	x := sessions.New()
	installs(t, x, one, 5, api.OK)
	a, _ := x.Get(5)
	b, _ := x.Current(one)
	a.Send()
	b.Take(3)
	if n, _ := b.Send(); n != 1006 || a != b {
		t.Errorf("Send: %d", n)
	}
	installs(t, x, one, 6, api.OK)
	installs(t, x, two, 7, api.OK)
	x.Forget(6)
	c, _ := x.Current(one)
	if n, _ := c.Send(); n != 1007 || c.Take(3) != api.ErrSeen || c != a {
		t.Errorf("Send: %d", n)
	}
	x.Forget(5)
	installs(t, x, one, 5, api.OK)
	d, _ := x.Get(5)
	if n, _ := d.Send(); n != 1005 || d == a || !d.Can(3) {
		t.Errorf("Send of another one: %d", n)
	}
	lacks(t, x, 0, 6, 8, 105, math.MaxUint32)
}

// P31.3: what is forgotten is there no more, and the other one of its key is the current one.
func TestForget(t *testing.T) {
	x := sessions.New()
	lacks(t, x, 0, 1, math.MaxUint32)
	installs(t, x, one, 7, api.OK)
	installs(t, x, one, 3, api.OK)
	installs(t, x, two, 5, api.OK)
	if fail := x.Forget(3); fail != api.OK {
		t.Errorf("Forget: %v", fail)
	}
	lacks(t, x, 3)
	current(t, x, one, 7)
	locals(t, x, 5, 7)
	installs(t, x, one, 2, api.OK)
	if fail := x.Forget(7); fail != api.OK {
		t.Errorf("Forget: %v", fail)
	}
	current(t, x, one, 2)
	installs(t, x, one, 7, api.OK)
	current(t, x, one, 7)
	locals(t, x, 2, 5, 7)
	x.Forget(2)
	x.Forget(7)
	current(t, x, one, -1)
	locals(t, x, 5)
	installs(t, x, one, 1, api.OK)
	current(t, x, one, 1)
}

// P31.3: all of a key, and nothing else.
func TestDrop(t *testing.T) {
	x := sessions.New()
	for i, k := range []api.Key{one, two, one, three, one} {
		installs(t, x, k, uint32(i), api.OK)
	}
	if n := x.Drop(api.Key{9}); n != 0 {
		t.Errorf("Drop of none: %d", n)
	}
	locals(t, x, 1, 2, 3, 4)
	if n := x.Drop(one); n != 2 {
		t.Errorf("Drop: %d", n)
	}
	locals(t, x, 1, 3)
	lacks(t, x, 2, 4)
	current(t, x, one, -1)
	if n := x.Drop(one); n != 0 {
		t.Errorf("Drop, once more: %d", n)
	}
	if n := x.Drop(three); n != 1 {
		t.Errorf("Drop of one: %d", n)
	}
	installs(t, x, one, 4, api.OK)
	locals(t, x, 1, 4)
	current(t, x, two, 1)
}

// P31.3: rising, whatever the order.
func TestLocals(t *testing.T) {
	x := sessions.New()
	for i, local := range []uint32{math.MaxUint32, 0, 1 << 31, 1<<31 - 1, 256, 255, 1} {
		installs(t, x, api.Key{byte(i)}, local, api.OK)
	}
	locals(t, x, 0, 1, 255, 256, 1<<31-1, 1<<31, math.MaxUint32)
}

// P31.2, P31.3: the table's own numbers and keys count, whatever is written into a session that was answered.
func TestWritten(t *testing.T) {
	x := sessions.New()
	installs(t, x, one, 1, api.OK)
	installs(t, x, one, 2, api.OK)
	s, _ := x.Current(one)
	s.Key, s.Local = two, 9
	lacks(t, x, 9)
	current(t, x, two, -1)
	if fail := x.Forget(2); fail != api.OK {
		t.Errorf("Forget: %v", fail)
	}
	locals(t, x, 1)
	current(t, x, one, 1)
	s, _ = x.Get(1)
	s.Key = two
	if fail := x.Forget(1); fail != api.OK {
		t.Errorf("Forget: %v", fail)
	}
	locals(t, x)
	current(t, x, one, -1)
	installs(t, x, one, 1, api.OK)
	current(t, x, one, 1)
}

// entry is a session of the model.
type entry struct {
	k     api.Key
	local uint32
}

// install puts an entry behind all others, as the chapter tells it.
func install(list []entry, k api.Key, local uint32) ([]entry, api.Errno) {
	if slices.ContainsFunc(list, func(e entry) bool { return e.local == local }) {
		return list, api.ErrTwice
	}
	own := 0
	for _, e := range list {
		if e.k == k {
			own++
		}
	}
	if own < 2 && len(list) == 32 {
		return list, api.ErrFull
	}
	if own == 2 {
		i := slices.IndexFunc(list, func(e entry) bool { return e.k == k })
		list = slices.Delete(list, i, i+1)
	}
	return append(list, entry{k, local}), api.OK
}

// P31.1 to P31.3: whatever is done, it answers as a plain list does.
func TestModel(t *testing.T) {
	source := rand.New(rand.NewSource(31))
	for _, keys := range []int{3, 16, 40} {
		x, list := sessions.New(), []entry{}
		for range 4000 {
			k, local := api.Key{byte(source.Intn(keys))}, uint32(source.Intn(60))
			was := len(list)
			switch choice := source.Intn(40); {
			case choice == 0:
				list = slices.DeleteFunc(list, func(e entry) bool { return e.k == k })
				if n := x.Drop(k); n != was-len(list) {
					t.Fatalf("Drop: %d, not %d", n, was-len(list))
				}
			case choice < 4:
				list = slices.DeleteFunc(list, func(e entry) bool { return e.local == local })
				if fail := x.Forget(local); (fail == api.OK) != (len(list) < was) || len(list) == was && fail != api.ErrNone {
					t.Fatalf("Forget: %v", fail)
				}
			default:
				var want api.Errno
				list, want = install(list, k, local)
				installs(t, x, k, local, want)
			}
			agrees(t, x, list, k)
		}
	}
}

// agrees holds a table against a list, and asks for a key's current session.
func agrees(t *testing.T, x *sessions.Table, list []entry, k api.Key) {
	t.Helper()
	var all []uint32
	last := -1
	for _, e := range list {
		all = append(all, e.local)
		if e.k == k {
			last = int(e.local)
		}
		if s, is := x.Get(e.local); !is || s.Key != e.k {
			t.Fatalf("Get(%d): %v, %t", e.local, s, is)
		}
	}
	slices.Sort(all)
	locals(t, x, all...)
	current(t, x, k, last)
	if t.Failed() {
		t.FailNow()
	}
}

// R2: the numbers that are answered are new.
func TestAnew(t *testing.T) {
	x := sessions.New()
	installs(t, x, one, 1, api.OK)
	installs(t, x, one, 2, api.OK)
	l := x.Locals()
	l[0], l[1] = 9, 9
	locals(t, x, 1, 2)
	current(t, x, one, 2)
}

// P1, P31.3: of nil, and of a zero table.
func TestNil(t *testing.T) {
	for _, x := range []*sessions.Table{nil, {}} {
		for _, local := range []uint32{0, 1, math.MaxUint32} {
			installs(t, x, one, local, api.ErrNil)
			installs(t, x, api.Key{}, local, api.ErrNil)
			if fail := x.Forget(local); fail != api.ErrNil {
				t.Errorf("Forget(%d): %v", local, fail)
			}
			if s, is := x.Get(local); s != nil || is {
				t.Errorf("Get(%d): %v, %t", local, s, is)
			}
		}
		for _, k := range []api.Key{{}, one} {
			current(t, x, k, -1)
			if n := x.Drop(k); n != 0 {
				t.Errorf("Drop: %d", n)
			}
		}
		locals(t, x)
	}
}

// The chapter's example.
func TestExample(t *testing.T) {
	x := sessions.New()
	installs(t, x, one, 1, api.OK)
	installs(t, x, one, 2, api.OK)
	installs(t, x, one, 3, api.OK)
	lacks(t, x, 1)
	locals(t, x, 2, 3)
	current(t, x, one, 3)
}
