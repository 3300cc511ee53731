package lines_test

import (
	"slices"
	"strings"
	"testing"

	"crawlway/lines"
)

// P6.1: lines, each with a byte 10 behind it, as they are.
func TestJoin(t *testing.T) {
	if got := lines.Join(); got != "" {
		t.Errorf("%q", got)
	}
	for _, c := range []struct {
		l    []string
		want string
	}{
		{nil, ""},
		{[]string{""}, "\n"},
		{[]string{"a"}, "a\n"},
		{[]string{"x", ""}, "x\n\n"},
		{[]string{"", "x"}, "\nx\n"},
		{[]string{" a ", "b\r", "\xff\x00"}, " a \nb\r\n\xff\x00\n"},
		{[]string{"a\nb", "c\n"}, "a\nb\nc\n\n"},
	} {
		if got := lines.Join(c.l...); got != c.want {
			t.Errorf("Join(%q): %q", c.l, got)
		}
	}
}

// P6.1: Split is strict about the end of the last line, Loose is not.
func TestSplit(t *testing.T) {
	for _, c := range []struct {
		s    string
		want []string
		is   bool
	}{
		{"", nil, true},
		{"\n", []string{""}, true},
		{"\n\n", []string{"", ""}, true},
		{"a\n", []string{"a"}, true},
		{"a\n\n", []string{"a", ""}, true},
		{"a\nb\n", []string{"a", "b"}, true},
		{"a\n\nb\n", []string{"a", "", "b"}, true},
		{"\na\n", []string{"", "a"}, true},
		{"a\r\nb\r\n", []string{"a\r", "b\r"}, true},
		{" \n\x00\xff\n", []string{" ", "\x00\xff"}, true},
		{"a", []string{"a"}, false},
		{"a\nb", []string{"a", "b"}, false},
		{"a\n\nb", []string{"a", "", "b"}, false},
		{"\na", []string{"", "a"}, false},
		{"a\n ", []string{"a", " "}, false},
		{"a\n\r", []string{"a", "\r"}, false},
	} {
		if got := lines.Loose(c.s); !slices.Equal(got, c.want) {
			t.Errorf("Loose(%q): %q", c.s, got)
		}
		got, is := lines.Split(c.s)
		if is != c.is || is && !slices.Equal(got, c.want) || !is && len(got) != 0 {
			t.Errorf("Split(%q): %q, %v", c.s, got, is)
		}
		if is && lines.Join(got...) != c.s {
			t.Errorf("Join(%q) is not %q", got, c.s)
		}
	}
}

// P6.1: lines that are joined are split again as they were, however many.
func TestJoinAndSplit(t *testing.T) {
	var l []string
	for i := range 500 {
		if got, is := lines.Split(lines.Join(l...)); !is || !slices.Equal(got, l) {
			t.Fatalf("%d lines: %q, %v", i, got, is)
		}
		l = append(l, strings.Repeat("x", i%7))
	}
}

// P6.2: blanks at the ends alone, of each of the three kinds alone.
func TestTrim(t *testing.T) {
	for s, want := range map[string]string{
		"": "", " ": "", "\t": "", "\r": "", " \t\r\r\t ": "", "a": "a", " a": "a", "a ": "a", " \ta b\r ": "a b", "\r\na\n\r": "\na\n", "a \t\r b": "a \t\r b",
		"\n": "\n", "\v a \f": "\v a \f", "\x00 ": "\x00", "\u00a0a\u00a0": "\u00a0a\u00a0", "\u2003a": "\u2003a", "\x85 \xa0": "\x85 \xa0", " \xff ": "\xff", " é ": "é",
	} {
		if got := lines.Trim(s); got != want {
			t.Errorf("Trim(%q): %q", s, got)
		}
	}
	for c := range 256 {
		s := string([]byte{byte(c), 'x', byte(c), 'x', byte(c)})
		want := s
		if c == 32 || c == 9 || c == 13 {
			want = s[1:4]
		}
		if got := lines.Trim(s); got != want {
			t.Errorf("Trim(%q): %q", s, got)
		}
	}
}

// P6.3: the first sep cuts.
func TestCut(t *testing.T) {
	for _, c := range []struct {
		s           string
		sep         byte
		head, after string
		is          bool
	}{
		{"k=v", '=', "k", "v", true},
		{"k=v=w", '=', "k", "v=w", true},
		{"k=", '=', "k", "", true},
		{"=v", '=', "", "v", true},
		{"=", '=', "", "", true},
		{"==", '=', "", "=", true},
		{"k", '=', "k", "", false},
		{"", '=', "", "", false},
		{"a\x00b", 0, "a", "b", true},
		{"a\xffb", 0xff, "a", "b", true},
		{"é", 0xa9, "\xc3", "", true},
		{"a\u00ffb", 0xff, "a\u00ffb", "", false},
	} {
		if head, after, is := lines.Cut(c.s, c.sep); head != c.head || after != c.after || is != c.is {
			t.Errorf("Cut(%q, %d): %q, %q, %v", c.s, c.sep, head, after, is)
		}
	}
}

// P6.3: all seps part, and there is at least one part.
func TestParts(t *testing.T) {
	for _, c := range []struct {
		s    string
		sep  byte
		want []string
	}{
		{"", ',', []string{""}},
		{"a", ',', []string{"a"}},
		{",", ',', []string{"", ""}},
		{"a,,b", ',', []string{"a", "", "b"}},
		{",a,", ',', []string{"", "a", ""}},
		{"a, b ,c", ',', []string{"a", " b ", "c"}},
		{"1.2.3.4", '.', []string{"1", "2", "3", "4"}},
		{"a\nb\n", '\n', []string{"a", "b", ""}},
		{"a\x00b", 0, []string{"a", "b"}},
		{"a\xffb\xff", 0xff, []string{"a", "b", ""}},
		{"a\u00ffb", 0xff, []string{"a\u00ffb"}},
		{"éé", 0xa9, []string{"\xc3", "\xc3", ""}},
	} {
		if got := lines.Parts(c.s, c.sep); !slices.Equal(got, c.want) {
			t.Errorf("Parts(%q, %d): %q", c.s, c.sep, got)
		}
	}
	for c := range 256 {
		sep := string([]byte{byte(c)})
		want := []string{"", "", strings.Repeat(string([]byte{byte(c + 1)}), 3), ""}
		if got := lines.Parts(strings.Join(want, sep), byte(c)); !slices.Equal(got, want) {
			t.Errorf("Parts by %d: %q", c, got)
		}
	}
}

// P6.4: the letters A to Z alone, and no other byte.
func TestFold(t *testing.T) {
	for s, want := range map[string]string{
		"": "", "PeeR": "peer", "ABCDEFGHIJKLMNOPQRSTUVWXYZ": "abcdefghijklmnopqrstuvwxyz", "abc xyz 019": "abc xyz 019", "ÀÉ": "ÀÉ", "\u212a\u0130": "\u212a\u0130", "\xc0A\xff": "\xc0a\xff", "@[`{": "@[`{",
	} {
		if got := lines.Fold(s); got != want {
			t.Errorf("Fold(%q): %q", s, got)
		}
	}
	for c := range 256 {
		want := byte(c)
		if c >= 65 && c <= 90 {
			want += 32
		}
		if got := lines.Fold(string([]byte{byte(c)})); got != string([]byte{want}) {
			t.Errorf("Fold of %d: %q", c, got)
		}
	}
}

// R2: lists that are handed in stay as they are, and those that are answered are new.
func TestAnew(t *testing.T) {
	in := []string{"a", "b"}
	lines.Join(in...)
	if !slices.Equal(in, []string{"a", "b"}) {
		t.Error(in)
	}
	for _, list := range []func(string) []string{
		lines.Loose,
		func(s string) []string { l, _ := lines.Split(s); return l },
		func(s string) []string { return lines.Parts(s, '\n')[:2] },
	} {
		got := list("a\nb\n")
		got[0], got[1] = "x", "y"
		if got := list("a\nb\n"); !slices.Equal(got, in) {
			t.Error(got)
		}
	}
}
