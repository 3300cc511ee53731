package counter_test

import (
	"math"
	"math/big"
	"math/rand"
	"slices"
	"testing"

	"crawlway/api"
	"crawlway/counter"
)

// limit is the least number that is not sent: 2^64 - 8193.
const limit = math.MaxUint64 - 8192

// next asks for the next number.
func next(t *testing.T, c *counter.Counter, want uint64, fails api.Errno) {
	t.Helper()
	if n, fail := c.Next(); n != want || fail != fails {
		t.Errorf("Next: %d, %v, not %d, %v", n, fail, want, fails)
	}
}

// left asks how many are left.
func left(t *testing.T, c *counter.Counter, want uint64) {
	t.Helper()
	if n := c.Left(); n != want {
		t.Errorf("Left: %d, not %d", n, want)
	}
}

// P29.1, P29.3: from any number on, by one each.
func TestNext(t *testing.T) {
	for _, first := range []uint64{0, 1, 7, 255, 1<<32 - 2, 1<<63 - 1, limit - 101} {
		c := counter.New(first)
		for i := range uint64(100) {
			left(t, c, limit-first-i)
			next(t, c, first+i, api.OK)
		}
	}
}

// P29.1: below the limit, and no further.
func TestSpent(t *testing.T) {
	for short := range uint64(5) {
		c := counter.New(limit - short)
		for i := range short {
			left(t, c, short-i)
			next(t, c, limit-short+i, api.OK)
		}
		for range 3 {
			left(t, c, 0)
			next(t, c, 0, api.ErrSpent)
		}
	}
	for _, first := range []uint64{limit + 1, limit + 8191, math.MaxUint64 - 1, math.MaxUint64} {
		c := counter.New(first)
		was := *c
		for range 3 {
			left(t, c, 0)
			next(t, c, 0, api.ErrSpent)
		}
		if *c != was {
			t.Errorf("New(%d) changed", first)
		}
	}
}

// P29.1: a zero counter begins with 0.
func TestZero(t *testing.T) {
	var c counter.Counter
	left(t, &c, limit)
	next(t, &c, 0, api.OK)
	next(t, &c, 1, api.OK)
	left(t, &c, limit-2)
}

// P29.2: sums, that stay at the greatest number.
func TestSum(t *testing.T) {
	const most = math.MaxUint64
	for _, c := range []struct {
		l    []uint64
		want uint64
	}{
		{[]uint64{0}, 0}, {[]uint64{7}, 7}, {[]uint64{most}, most},
		{[]uint64{1, 2}, 3}, {[]uint64{1, 2, 3, 4}, 10}, {[]uint64{0, 0, 0}, 0},
		{[]uint64{most, 0}, most}, {[]uint64{0, most}, most}, {[]uint64{most - 1, 1}, most}, {[]uint64{1, most - 1}, most},
		{[]uint64{most, 1}, most}, {[]uint64{1, most}, most}, {[]uint64{most, most}, most}, {[]uint64{most, 1, 5}, most}, {[]uint64{5, most, 0, 3}, most},
		{[]uint64{1 << 63, 1 << 63}, most}, {[]uint64{1 << 63, 1<<63 - 1}, most}, {[]uint64{1 << 63, 1<<63 - 2}, most - 1}, {[]uint64{1 << 62, 1 << 62, 1 << 62, 1 << 62, 9}, most},
		{[]uint64{most, most, 2}, most},
	} {
		if got := counter.Sum(c.l[0], c.l[1:]...); got != c.want {
			t.Errorf("Sum(%v): %d, not %d", c.l, got, c.want)
		}
	}
	if counter.Sum(5) != 5 || counter.Sum(5, 6) != 11 || counter.Sum(1, 2, 3) != 6 {
		t.Error("Sum")
	}
}

// P29.2: as numbers without end have it; R2: what is handed in stays.
func TestSumModel(t *testing.T) {
	source := rand.New(rand.NewSource(29))
	most := new(big.Int).SetUint64(math.MaxUint64)
	for range 5000 {
		l := make([]uint64, 1+source.Intn(5))
		sum := new(big.Int)
		for i := range l {
			l[i] = source.Uint64() >> source.Intn(4)
			sum.Add(sum, new(big.Int).SetUint64(l[i]))
		}
		if sum.Cmp(most) > 0 {
			sum = most
		}
		was := slices.Clone(l)
		if got := counter.Sum(l[0], l[1:]...); got != sum.Uint64() || !slices.Equal(l, was) {
			t.Errorf("Sum(%v): %d, not %v", was, got, sum)
		}
	}
}

// R7: a copy goes its own way.
func TestCopy(t *testing.T) {
	c := counter.New(5)
	d := *c
	next(t, c, 5, api.OK)
	next(t, c, 6, api.OK)
	next(t, &d, 5, api.OK)
	next(t, c, 7, api.OK)
}

// P1, P29.1: of nil.
func TestNil(t *testing.T) {
	var c *counter.Counter
	next(t, c, 0, api.ErrNil)
	left(t, c, 0)
}

// The chapter's example.
func TestExample(t *testing.T) {
	c := counter.New(1<<64 - 8194)
	next(t, c, 1<<64-8194, api.OK)
	next(t, c, 0, api.ErrSpent)
}
