package session_test

import (
	"math"
	"math/rand"
	"testing"

	"crawlway/api"
	"crawlway/counter"
	"crawlway/replay"
	"crawlway/session"
)

// sends asks for the next number.
func sends(t *testing.T, s *session.Session, want uint64, fails api.Errno) {
	t.Helper()
	if n, fail := s.Send(); n != want || fail != fails {
		t.Errorf("Send: %d, %v, not %d, %v", n, fail, want, fails)
	}
}

// takes takes a number, having asked whether it can be.
func takes(t *testing.T, s *session.Session, n uint64, want api.Errno) {
	t.Helper()
	if can := s.Can(n); can != (want == api.OK) {
		t.Errorf("Can(%d): %t", n, can)
	}
	if fail := s.Take(n); fail != want {
		t.Errorf("Take(%d): %v, not %v", n, fail, want)
	}
}

// P30.1: a session of what it was made of.
func TestNew(t *testing.T) {
	k := api.Key{1, 31: 2}
	s := session.New(k, 5, math.MaxUint32, 9)
	if s.Key != k || s.Local != 5 || s.Remote != math.MaxUint32 || s.Spent() {
		t.Errorf("New: %v", s)
	}
	sends(t, s, 9, api.OK)
	sends(t, s, 10, api.OK)
	takes(t, s, 0, api.OK)
	if s.Key != k || s.Local != 5 || s.Remote != math.MaxUint32 {
		t.Errorf("New, later: %v", s)
	}
}

// P30.1: spent is it when the last number is sent, and not ahead of it.
func TestSpent(t *testing.T) {
	for short := range uint64(4) {
		s := session.New(api.Key{}, 0, 0, replay.Limit-short)
		for i := range short {
			if s.Spent() {
				t.Errorf("Spent, %d ahead", short-i)
			}
			sends(t, s, replay.Limit-short+i, api.OK)
		}
		for range 3 {
			sends(t, s, 0, api.ErrSpent)
			if !s.Spent() {
				t.Error("not Spent")
			}
		}
		takes(t, s, 3, api.OK)
	}
	s := session.New(api.Key{}, 0, 0, math.MaxUint64)
	sends(t, s, 0, api.ErrSpent)
	if !s.Spent() {
		t.Error("not Spent")
	}
}

// P30.2: each number once, and none that is too far below, or above.
func TestTake(t *testing.T) {
	s := session.New(api.Key{7}, 1, 2, 100)
	takes(t, s, 2000, api.OK)
	takes(t, s, 2000, api.ErrSeen)
	takes(t, s, 16, api.OK)
	takes(t, s, 16, api.ErrSeen)
	takes(t, s, 15, api.ErrSeen)
	takes(t, s, 1999, api.OK)
	takes(t, s, replay.Limit, api.ErrSeen)
	takes(t, s, math.MaxUint64, api.ErrSeen)
	takes(t, s, replay.Limit-1, api.OK)
	takes(t, s, 2001, api.ErrSeen)
	sends(t, s, 100, api.OK)
	if s.Spent() {
		t.Error("Spent")
	}
}

// P30.1, P30.2: it answers as its counter and its window do.
func TestParts(t *testing.T) {
	source := rand.New(rand.NewSource(30))
	first := uint64(replay.Limit - 500)
	s, c, w := session.New(api.Key{}, 3, 4, first), counter.New(first), &replay.Window{}
	for range 3000 {
		if source.Intn(4) == 0 {
			n, fail := c.Next()
			sends(t, s, n, fail)
		}
		n, want := uint64(source.Intn(5000)), api.ErrSeen
		if w.Take(n) {
			want = api.OK
		}
		takes(t, s, n, want)
		if s.Spent() != (c.Left() == 0) || s.Left() != c.Left() || s.Top() != w.Top() || s.Some() != w.Some() {
			t.Errorf("%t, %d, %d, %t", s.Spent(), s.Left(), s.Top(), s.Some())
		}
	}
}

// P30.3, R7: each of both goes on likewise, on its own way.
func TestCopy(t *testing.T) {
	s := session.New(api.Key{1}, 2, 3, 7)
	sends(t, s, 7, api.OK)
	takes(t, s, 5, api.OK)
	c := s.Copy()
	if c == s || c.Key != s.Key || c.Local != 2 || c.Remote != 3 {
		t.Errorf("Copy: %v", c)
	}
	sends(t, c, 8, api.OK)
	sends(t, c, 9, api.OK)
	takes(t, c, 5, api.ErrSeen)
	takes(t, c, 6, api.OK)
	sends(t, s, 8, api.OK)
	takes(t, s, 6, api.OK)
	takes(t, s, 4, api.OK)
	takes(t, c, 4, api.OK)
	c.Key, c.Local, c.Remote = api.Key{}, 0, 0
	if s.Key != (api.Key{1}) || s.Local != 2 || s.Remote != 3 {
		t.Errorf("what was copied: %v", s)
	}
}

// P30.3: a zero session is one of zeros.
func TestZero(t *testing.T) {
	s := &session.Session{}
	for _, s := range []*session.Session{s.Copy(), s, session.New(api.Key{}, 0, 0, 0)} {
		if s.Key != (api.Key{}) || s.Local != 0 || s.Remote != 0 || s.Spent() {
			t.Errorf("a zero session: %v", s)
		}
		sends(t, s, 0, api.OK)
		sends(t, s, 1, api.OK)
		takes(t, s, 0, api.OK)
		takes(t, s, 0, api.ErrSeen)
	}
}

// P1, P30.3: of nil.
func TestNil(t *testing.T) {
	var s *session.Session
	sends(t, s, 0, api.ErrNil)
	for _, n := range []uint64{0, 1, replay.Limit, math.MaxUint64} {
		takes(t, s, n, api.ErrNil)
	}
	if !s.Spent() || s.Copy() != nil {
		t.Errorf("Spent: %t, Copy: %v", s.Spent(), s.Copy())
	}
}

// The chapter's example.
func TestExample(t *testing.T) {
	s := session.New(api.Key{1}, 1, 2, 7)
	sends(t, s, 7, api.OK)
	sends(t, s, 8, api.OK)
	takes(t, s, 5, api.OK)
	takes(t, s, 5, api.ErrSeen)
}
