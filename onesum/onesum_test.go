package onesum_test

import (
	"bytes"
	"math/rand"
	"testing"

	"crawlway/onesum"
)

// slow is the sum as the document words it, word by word, what is above 16 bits added again after each one.
func slow(b []byte) uint16 {
	if len(b)%2 == 1 {
		b = append(bytes.Clone(b), 0)
	}
	sum := 0
	for i := 0; i < len(b); i += 2 {
		sum += int(b[i])*256 + int(b[i+1])
		if sum > 65535 {
			sum -= 65535
		}
	}
	return uint16(sum)
}

func someBytes() [][]byte {
	source := rand.New(rand.NewSource(18))
	list := [][]byte{nil, {}, {0}, {0, 0}, {0, 0, 0}, {1}, {255}, {255, 255}, {255, 255, 255}, {255, 255, 255, 255}, {0, 1}, {1, 0}, {0, 0, 1}}
	for size := range 40 {
		b := make([]byte, size)
		source.Read(b)
		list = append(list, b, bytes.Repeat([]byte{255}, size), make([]byte, size))
	}
	for _, size := range []int{1500, 65535, 65536, 1<<17 + 1, 1<<17 + 4, 1 << 18, 1<<20 + 3} {
		b := make([]byte, size)
		source.Read(b)
		list = append(list, b, bytes.Repeat([]byte{255}, size), bytes.Repeat([]byte{255, 254}, size/2))
	}
	return list
}

// P18.1: the sums that are known, and those of many bytes as they are reckoned word by word.
func TestOf(t *testing.T) {
	for _, c := range []struct {
		b    []byte
		want uint16
	}{
		{nil, 0},
		{[]byte{0}, 0},
		{[]byte{1}, 256},
		{[]byte{1, 2}, 258},
		{[]byte{1, 2, 3}, 258 + 768},
		{[]byte{255, 255}, 65535},
		{[]byte{255, 255, 0, 0}, 65535},
		{[]byte{255, 255, 0, 1}, 1},
		{[]byte{255, 255, 255, 255}, 65535},
		{[]byte{128, 0, 128, 0}, 1},
		{[]byte{255, 254, 0, 1}, 65535},
		{[]byte{0, 1, 0xf2, 3, 0xf4, 0xf5, 0xf6, 0xf7}, 0xddf2},
	} {
		if got := onesum.Of(c.b); got != c.want {
			t.Errorf("Of(%v): %d", c.b, got)
		}
	}
	for _, b := range someBytes() {
		if got, want := onesum.Of(b), slow(b); got != want {
			t.Errorf("Of %d bytes: %d, not %d", len(b), got, want)
		}
	}
}

// P18.1: sums that are carried twice.
func TestCarry(t *testing.T) {
	b := append(bytes.Repeat([]byte{255, 255}, 65536), 0, 1)
	for range 4 {
		b = append(b, 255, 255)
		if got, want := onesum.Of(b), slow(b); got != want {
			t.Errorf("Of %d bytes: %d, not %d", len(b), got, want)
		}
	}
}

// P18.1: no part at all, or none with bytes.
func TestNothing(t *testing.T) {
	if onesum.Of() != 0 || onesum.Check() != 65535 || onesum.Good() {
		t.Errorf("of no part: %d, %d, %t", onesum.Of(), onesum.Check(), onesum.Good())
	}
	if onesum.Of(nil, nil) != 0 || onesum.Check(nil, []byte{}) != 65535 || onesum.Good([]byte{}, nil) {
		t.Errorf("of empty parts: %d", onesum.Of(nil, nil))
	}
}

// P18.1: Check is what is left up to 65535, and 65535 itself is good, 0 is not.
func TestCheck(t *testing.T) {
	for n := range 65536 {
		b := []byte{byte(n >> 8), byte(n)}
		if got := onesum.Check(b); int(got) != 65535-n {
			t.Fatalf("Check(%v): %d", b, got)
		}
		if got := onesum.Good(b); got != (n == 65535) {
			t.Fatalf("Good(%v): %t", b, got)
		}
	}
	for _, b := range someBytes() {
		if got, want := onesum.Check(b), 65535-slow(b); got != want {
			t.Errorf("Check of %d bytes: %d, not %d", len(b), got, want)
		}
		if got, want := onesum.Good(b), slow(b) == 65535; got != want {
			t.Errorf("Good of %d bytes: %t", len(b), got)
		}
	}
}

// P18.2: two words.
func TestAdd(t *testing.T) {
	for _, a := range []uint16{0, 1, 2, 255, 256, 257, 32767, 32768, 32769, 65533, 65534, 65535} {
		for n := range 65536 {
			b := uint16(n)
			want := int(a) + n
			if want > 65535 {
				want -= 65535
			}
			if got := onesum.Add(a, b); int(got) != want || onesum.Add(b, a) != got {
				t.Fatalf("Add(%d, %d): %d", a, b, got)
			}
		}
	}
}

// P18.3: wherever bytes are cut, in parts of any number.
func TestCuts(t *testing.T) {
	source := rand.New(rand.NewSource(183))
	for size := range 12 {
		b := make([]byte, size)
		source.Read(b)
		want := slow(b)
		for i := range size + 1 {
			for j := i; j <= size; j++ {
				if got := onesum.Of(b[:i], b[i:j], b[j:]); got != want {
					t.Errorf("Of(%v, %v, %v): %d, not %d", b[:i], b[i:j], b[j:], got, want)
				}
				if onesum.Check(b[:i], nil, b[i:j], b[j:]) != 65535-want || onesum.Good(b[:i], b[i:j], []byte{}, b[j:]) != (want == 65535) {
					t.Errorf("%v, %v, %v: the check or whether it is good", b[:i], b[i:j], b[j:])
				}
			}
		}
		var singles [][]byte
		for i := range b {
			singles = append(singles, b[i:i+1])
		}
		if got := onesum.Of(singles...); got != want {
			t.Errorf("Of %v in single bytes: %d, not %d", b, got, want)
		}
	}
}

// P18.3: two bytes 0 of one word, replaced by Check, make all good; one bit turned, and it is not.
func TestGood(t *testing.T) {
	source := rand.New(rand.NewSource(184))
	for size := 2; size < 30; size++ {
		for at := 0; at+1 < size; at += 2 {
			b := make([]byte, size)
			source.Read(b)
			b[at], b[at+1] = 0, 0
			check := onesum.Check(b)
			b[at], b[at+1] = byte(check>>8), byte(check)
			if !onesum.Good(b) {
				t.Errorf("not good: %v", b)
			}
			for bit := range 8 * size {
				b[bit/8] ^= 1 << (bit % 8)
				if onesum.Good(b) || onesum.Good(b[:1], b[1:]) {
					t.Errorf("good, though bit %d is turned: %v", bit, b)
				}
				b[bit/8] ^= 1 << (bit % 8)
			}
		}
	}
	if zeros := make([]byte, 8); onesum.Good(zeros) || onesum.Check(zeros) != 65535 {
		t.Errorf("of noughts: %t, %d", onesum.Good(zeros), onesum.Check(zeros))
	}
}

// R2: what is handed in stays as it was.
func TestAnew(t *testing.T) {
	b := []byte{1, 2, 3}
	room := append(make([]byte, 0, 9), b...)
	onesum.Of(room, room)
	onesum.Check(room)
	onesum.Good(room)
	if !bytes.Equal(room, b) || room[:4][3] != 0 {
		t.Errorf("changed: %v", room[:4])
	}
}

// The chapter's examples.
func TestExample(t *testing.T) {
	if got := onesum.Of([]byte{255, 255, 0, 1}); got != 1 {
		t.Errorf("Of(255, 255, 0, 1): %d", got)
	}
	if got := onesum.Add(65535, 1); got != 1 {
		t.Errorf("Add(65535, 1): %d", got)
	}
}
