package wording_test

import (
	"bytes"
	"math"
	"slices"
	"strings"
	"testing"

	"crawlway/addr"
	"crawlway/api"
	"crawlway/decimal"
	"crawlway/hostport"
	"crawlway/wording"
)

func hex() string { return "01" + strings.Repeat("0", 62) }

// reads asks a word for what it reads, and for what it writes then.
func reads(t *testing.T, w wording.Word, s string, want api.Errno) {
	t.Helper()
	if fail := w.Read(s); fail != want {
		t.Errorf("Read(%q): %v, not %v", s, fail, want)
	}
	if got := w.Text(); want == api.OK && got != s {
		t.Errorf("Text: %q, not %q", got, s)
	}
}

// Each word reads its field, and writes it; what is taken away is zero then.
func TestWords(t *testing.T) {
	var b []byte
	w := wording.Bytes(&b)
	for s, want := range map[string]api.Errno{"-": api.OK, "00": api.OK, "0aff": api.OK, "": api.ErrForm, "0": api.ErrForm, "0A": api.ErrForm, "--": api.ErrForm} {
		reads(t, w, s, want)
	}
	reads(t, w, "0102", api.OK)
	if !bytes.Equal(b, []byte{1, 2}) || !w.Take() || b != nil || w.Text() != "-" {
		t.Errorf("Bytes: %v", b)
	}
	var k api.Key
	w = wording.Key(&k)
	reads(t, w, "00", api.ErrShort)
	reads(t, w, hex()+"00", api.ErrLong)
	reads(t, w, "-", api.ErrForm)
	reads(t, w, hex(), api.OK)
	if k != (api.Key{1}) || !w.Take() || k != (api.Key{}) || !w.Take() {
		t.Errorf("Key: %v", k)
	}
	var e api.Endpoint
	w = wording.Endpoint(&e)
	reads(t, w, "1.2.3.4", api.ErrForm)
	reads(t, w, "1.2.3.4:0", api.ErrRange)
	reads(t, w, "1.2.3.4:5", api.OK)
	if want, _ := hostport.Parse("1.2.3.4:5"); e != want || !w.Take() || !hostport.None(e) || w.Take() {
		t.Errorf("Endpoint: %v", e)
	}
	e = api.Endpoint{A: addr.Four([4]byte{1}), Port: -1}
	if w.Take() || !hostport.None(e) {
		t.Errorf("Endpoint: %v", e)
	}
}

// Numbers are read up to the most that may be.
func TestNumber(t *testing.T) {
	var small uint32
	w := wording.Number(&small, math.MaxUint32)
	reads(t, w, "4294967296", api.ErrRange)
	reads(t, w, "07", api.ErrForm)
	reads(t, w, "4294967295", api.OK)
	if small != math.MaxUint32 || !w.Take() || small != 0 || w.Text() != "0" {
		t.Errorf("Number: %d", small)
	}
	w = wording.Number(&small, 9)
	reads(t, w, "10", api.ErrRange)
	reads(t, w, "9", api.OK)
	var large uint64
	w = wording.Number(&large, math.MaxUint64)
	reads(t, w, "18446744073709551616", api.ErrRange)
	reads(t, w, "18446744073709551615", api.OK)
	if large != math.MaxUint64 || !w.Take() || large != 0 {
		t.Errorf("Number: %d", large)
	}
}

// All values are taken away, though the first one is wrong.
func TestTake(t *testing.T) {
	n, e, m := uint32(1), api.Endpoint{Port: 1}, uint64(2)
	words := []wording.Word{wording.Number(&n, 9), wording.Endpoint(&e), wording.Number(&m, 9)}
	if wording.Take(words) || n != 0 || !hostport.None(e) || m != 0 {
		t.Errorf("Take: %d, %v, %d", n, e, m)
	}
	e, _ = hostport.Parse("1.2.3.4:5")
	if !wording.Take(words) || !hostport.None(e) || !wording.Take(nil) {
		t.Errorf("Take: %v", e)
	}
}

// A line is taken apart at each space, and read word by word.
func TestLine(t *testing.T) {
	n, m := uint32(7), uint64(8)
	words := []wording.Word{wording.Number(&n, 99), wording.Number(&m, 99)}
	if got := wording.Line("x", words); got != "x 7 8" {
		t.Errorf("Line: %q", got)
	}
	if got := wording.Line("x", nil); got != "x" {
		t.Errorf("Line: %q", got)
	}
	for line, want := range map[string][]string{"": {""}, "x": {"x"}, " ": {"", ""}, "x 7 8": {"x", "7", "8"}, "x  8": {"x", "", "8"}, "x\t7": {"x\t7"}} {
		if front, said := wording.Part(line); !slices.Equal(append([]string{front}, said...), want) {
			t.Errorf("Part(%q): %q, %q", line, front, said)
		}
	}
	for _, c := range []struct {
		said []string
		want api.Errno
	}{
		{nil, api.ErrForm}, {[]string{"1"}, api.ErrForm}, {[]string{"100", "1", "1"}, api.ErrForm},
		{[]string{"100", "x"}, api.ErrRange}, {[]string{"x", "100"}, api.ErrForm}, {[]string{"1", "100"}, api.ErrRange}, {[]string{"3", "4"}, api.OK},
	} {
		if fail := wording.Read(c.said, words); fail != c.want {
			t.Errorf("Read(%q): %v", c.said, fail)
		}
	}
	if n != 3 || m != 4 {
		t.Errorf("Read: %d, %d", n, m)
	}
}

// Texts are made of lines, and taken apart, up to the first wrong one.
func TestJoin(t *testing.T) {
	text := func(n uint64) (string, api.Errno) {
		if n > 9 {
			return "", api.ErrArg
		}
		return decimal.Text(n), api.OK
	}
	parse := func(s string) (uint64, api.Errno) { return decimal.Read(s, 9) }
	if s, fail := wording.Join([]uint64{1, 2}, text); s != "1\n2\n" || fail != api.OK {
		t.Errorf("Join: %q, %v", s, fail)
	}
	if s, fail := wording.Join([]uint64{1, 10, 2}, text); s != "" || fail != api.ErrArg {
		t.Errorf("Join: %q, %v", s, fail)
	}
	for s, want := range map[string]struct {
		l    []uint64
		line int
		fail api.Errno
	}{
		"": {nil, 0, api.OK}, "1\n2\n": {[]uint64{1, 2}, 0, api.OK}, "1\n2": {nil, 0, api.ErrForm}, "\n": {nil, 1, api.ErrForm},
		"1\n10\nx\n": {nil, 2, api.ErrRange}, "x\n10\n": {nil, 1, api.ErrForm},
	} {
		if l, line, fail := wording.Split(s, parse); !slices.Equal(l, want.l) || line != want.line || fail != want.fail {
			t.Errorf("Split(%q): %v, %d, %v", s, l, line, fail)
		}
	}
}
