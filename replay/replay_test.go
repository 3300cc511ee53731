package replay_test

import (
	"math"
	"math/rand"
	"testing"

	"crawlway/replay"
)

// model is which numbers were taken, one by one.
type model struct {
	taken map[uint64]int
	top   uint64
}

// can is the chapter's word of it.
func (m *model) can(n uint64) bool {
	if n >= math.MaxUint64-8192 {
		return false
	}
	return len(m.taken) == 0 || m.taken[n] == 0 && (n >= m.top || m.top-n <= 1984)
}

func (m *model) take(n uint64) {
	m.taken[n]++
	m.top = max(m.top, n)
}

// both are a window and its model.
type both struct {
	w replay.Window
	m model
}

func anew() *both { return &both{m: model{taken: map[uint64]int{}}} }

// asks asks whether a number can be taken.
func (b *both) asks(t *testing.T, n uint64) {
	t.Helper()
	if got := b.w.Can(n); got != b.m.can(n) {
		t.Fatalf("Can(%d): %t, the greatest being %d", n, got, b.m.top)
	}
}

// takes takes a number, if it can be.
func (b *both) takes(t *testing.T, n uint64) {
	t.Helper()
	b.asks(t, n)
	is := b.m.can(n)
	if got := b.w.Take(n); got != is {
		t.Fatalf("Take(%d): %t, the greatest being %d", n, got, b.m.top)
	}
	if is {
		b.m.take(n)
	}
	if b.w.Top() != b.m.top || b.w.Some() != (len(b.m.taken) > 0) {
		t.Fatalf("Take(%d): Top %d, not %d, Some %t", n, b.w.Top(), b.m.top, b.w.Some())
	}
	if b.w.Can(n) {
		t.Fatalf("Can(%d), taken", n)
	}
}

// looks asks for all numbers round about the greatest one, and far below it.
func (b *both) looks(t *testing.T) {
	t.Helper()
	for i := range uint64(2200) {
		if i <= b.m.top {
			b.asks(t, b.m.top-i)
		}
		b.asks(t, b.m.top+i%70)
	}
	for _, n := range []uint64{0, 1, 63, 64, b.m.top / 2} {
		b.asks(t, n)
	}
}

// P28.1, P28.2: a zero window has taken none, and any number can be, up to the limit.
func TestZero(t *testing.T) {
	for _, n := range []uint64{0, 1, 63, 64, 65, 1983, 1984, 1985, 2047, 2048, 2049, 1 << 20, 1 << 32, 1 << 63, math.MaxUint64 - 8194, math.MaxUint64 - 8193, math.MaxUint64 - 8192, math.MaxUint64 - 8191, math.MaxUint64 - 63, math.MaxUint64} {
		b := anew()
		if b.w.Some() || b.w.Top() != 0 {
			t.Errorf("a zero window: %d, %t", b.w.Top(), b.w.Some())
		}
		b.takes(t, n)
		b.looks(t)
		b.takes(t, n)
		b.looks(t)
	}
}

// P28.1: the limit, whatever was taken.
func TestLimit(t *testing.T) {
	if replay.Wide != 1984 || uint64(replay.Limit) != math.MaxUint64-8192 {
		t.Errorf("Wide %d, Limit %d", replay.Wide, uint64(replay.Limit))
	}
	b := anew()
	for _, n := range []uint64{7, replay.Limit, replay.Limit + 1, math.MaxUint64, replay.Limit - 2, replay.Limit, math.MaxUint64, replay.Limit - 1, replay.Limit, replay.Limit - 1 - 1984, replay.Limit - 2 - 1984, 7, 8} {
		b.takes(t, n)
	}
	b.looks(t)
}

// P28.1: 1984 below the greatest one, wherever that stands in a word, and no more.
func TestWide(t *testing.T) {
	for _, base := range []uint64{0, 1 << 40, replay.Limit - 4300} {
		for place := range uint64(66) {
			b := anew()
			top := base + 2048 + place
			b.takes(t, top)
			b.takes(t, top-1985)
			b.takes(t, top-1984)
			b.takes(t, top-1984)
			b.takes(t, top-1983)
			b.takes(t, top-1)
			b.takes(t, top)
			b.takes(t, top+1)
			b.takes(t, top-1984)
			b.takes(t, top-1983)
			b.looks(t)
		}
	}
}

// P28.1: as the greatest number rises by a step of any size, those that were taken stay so, and no other ones are.
func TestRise(t *testing.T) {
	for _, step := range []uint64{1, 2, 62, 63, 64, 65, 127, 128, 129, 1919, 1920, 1983, 1984, 1985, 2046, 2047, 2048, 2049, 2111, 2112, 4096, 1 << 20, 1 << 33, 1 << 60} {
		for _, start := range []uint64{0, 1, 63, 64, 1000, 5000} {
			b := anew()
			for i := range uint64(400) {
				b.takes(t, start+i*7)
			}
			for range 3 {
				b.takes(t, b.m.top+step)
				b.looks(t)
			}
		}
	}
}

// P28.1, P28.3: numbers in any order: each is taken once at most.
func TestModel(t *testing.T) {
	source := rand.New(rand.NewSource(28))
	for _, wide := range []int{40, 600, 2100, 9000} {
		for range 20 {
			b := anew()
			base := uint64(source.Intn(3000))
			for range 3000 {
				n := base + uint64(source.Intn(wide))
				b.takes(t, n)
				b.asks(t, base+uint64(source.Intn(wide)))
				base += uint64(source.Intn(4))
			}
			b.looks(t)
			for n, times := range b.m.taken {
				if times != 1 || b.w.Take(n) {
					t.Fatalf("%d was taken %d times, or can be once more", n, times)
				}
			}
		}
	}
}

// P28.1, R4: what can't be taken changes nothing, and neither does asking.
func TestStays(t *testing.T) {
	var w replay.Window
	w.Take(5000)
	w.Take(4999)
	was := w
	for _, n := range []uint64{0, 3015, 4999, 5000, replay.Limit, math.MaxUint64} {
		if w.Take(n) || w != was {
			t.Errorf("Take(%d)", n)
		}
	}
	for _, n := range []uint64{0, 3016, 4998, 5001, 1 << 50, replay.Limit - 1} {
		w.Can(n)
		if w != was {
			t.Errorf("Can(%d) changed it", n)
		}
	}
}

// R7: a copy goes its own way.
func TestCopy(t *testing.T) {
	var w replay.Window
	w.Take(9)
	c := w
	if !c.Take(10) || c.Take(9) || !w.Can(10) || w.Top() != 9 || !w.Take(8) || !c.Can(8) {
		t.Errorf("%d and %d", w.Top(), c.Top())
	}
}

// P1, P28.3: of nil.
func TestNil(t *testing.T) {
	var w *replay.Window
	for _, n := range []uint64{0, 1, replay.Limit - 1, replay.Limit, math.MaxUint64} {
		if w.Can(n) || w.Take(n) {
			t.Errorf("%d can be taken", n)
		}
	}
	if w.Top() != 0 || w.Some() {
		t.Errorf("Top %d, Some %t", w.Top(), w.Some())
	}
}

// The chapter's example.
func TestExample(t *testing.T) {
	var w replay.Window
	if !w.Take(5) || !w.Take(3) || w.Take(3) || !w.Take(2000) || w.Can(15) || w.Take(15) || !w.Can(16) {
		t.Errorf("Top %d", w.Top())
	}
}
