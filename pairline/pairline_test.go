package pairline_test

import (
	"math/rand"
	"slices"
	"strings"
	"testing"

	"crawlway/api"
	"crawlway/pairline"
)

// pair is a pair.
func pair(key, value string) pairline.Pair { return pairline.Pair{Key: key, Value: value} }

// x is so many letters.
func x(n int) string { return strings.Repeat("x", n) }

// many are so many pairs.
func many(n int) []pairline.Pair {
	var l []pairline.Pair
	for i := range n {
		l = append(l, pair("a", x(i%7)))
	}
	return l
}

// P36.1: a line, or why there is none; what is wrong in form counts ahead of what is long.
func TestText(t *testing.T) {
	for _, c := range []struct {
		p    pairline.Pair
		text string
		fail api.Errno
	}{
		{pair("a", "b"), "a=b", api.OK},
		{pair("a", ""), "a=", api.OK},
		{pair("a", "="), "a==", api.OK},
		{pair("a", "b=c"), "a=b=c", api.OK},
		{pair(" a\t", " \x00\xff\r"), " a\t= \x00\xff\r", api.OK},
		{pair("", ""), "", api.ErrForm},
		{pair("", "b"), "", api.ErrForm},
		{pair("", "a=b"), "", api.ErrForm},
		{pair("=", "b"), "", api.ErrForm},
		{pair("a=", "b"), "", api.ErrForm},
		{pair("=a", "b"), "", api.ErrForm},
		{pair("a=b", ""), "", api.ErrForm},
		{pair("a\n", "b"), "", api.ErrForm},
		{pair("\n", "b"), "", api.ErrForm},
		{pair("a", "\n"), "", api.ErrForm},
		{pair("a", "b\nc=d"), "", api.ErrForm},
		{pair("a", "b\n"), "", api.ErrForm},
		{pair("a", x(510)), "a=" + x(510), api.OK},
		{pair("a", x(511)), "", api.ErrLong},
		{pair(x(511), ""), x(511) + "=", api.OK},
		{pair(x(512), ""), "", api.ErrLong},
		{pair(x(256), x(255)), x(256) + "=" + x(255), api.OK},
		{pair(x(256), x(256)), "", api.ErrLong},
		{pair("", x(600)), "", api.ErrForm},
		{pair(x(600)+"=", ""), "", api.ErrForm},
		{pair("a", x(600)+"\n"), "", api.ErrForm},
		{pair("\n"+x(600), ""), "", api.ErrForm},
	} {
		if text, fail := pairline.Text(c.p); text != c.text || fail != c.fail {
			t.Errorf("Text(%q): %q, %v", c.p, text, fail)
		}
	}
}

// P36.1: a line's pair, or why it has none; what is long counts ahead of what is wrong in form.
func TestParse(t *testing.T) {
	for _, c := range []struct {
		line string
		p    pairline.Pair
		fail api.Errno
	}{
		{"a=b", pair("a", "b"), api.OK},
		{"a=", pair("a", ""), api.OK},
		{"a==", pair("a", "="), api.OK},
		{"a=b=c", pair("a", "b=c"), api.OK},
		{" a\t= \x00\xff\r", pair(" a\t", " \x00\xff\r"), api.OK},
		{"", pair("", ""), api.ErrForm},
		{"a", pair("", ""), api.ErrForm},
		{"a:b", pair("", ""), api.ErrForm},
		{"=", pair("", ""), api.ErrForm},
		{"=b", pair("", ""), api.ErrForm},
		{"==b", pair("", ""), api.ErrForm},
		{"a=b\n", pair("", ""), api.ErrForm},
		{"a\n=b", pair("", ""), api.ErrForm},
		{"\na=b", pair("", ""), api.ErrForm},
		{"a=b\nc=d", pair("", ""), api.ErrForm},
		{"\n", pair("", ""), api.ErrForm},
		{"a=" + x(510), pair("a", x(510)), api.OK},
		{"a=" + x(511), pair("", ""), api.ErrLong},
		{x(511) + "=", pair(x(511), ""), api.OK},
		{x(512) + "=", pair("", ""), api.ErrLong},
		{x(512), pair("", ""), api.ErrForm},
		{x(513), pair("", ""), api.ErrLong},
		{"=" + x(511), pair("", ""), api.ErrForm},
		{"=" + x(512), pair("", ""), api.ErrLong},
		{"a=\n" + x(509), pair("", ""), api.ErrForm},
		{"a=\n" + x(510), pair("", ""), api.ErrLong},
	} {
		if p, fail := pairline.Parse(c.line); p != c.p || fail != c.fail {
			t.Errorf("Parse(%q): %q, %v", c.line, p, fail)
		}
	}
}

// P36.2: a block, or the first error; that there are too many counts ahead of all.
func TestBlock(t *testing.T) {
	long, wrong := pair("a", x(511)), pair("", "a")
	for _, c := range []struct {
		name string
		l    []pairline.Pair
		text string
		fail api.Errno
	}{
		{"nothing", nil, "\n", api.OK},
		{"no elements", []pairline.Pair{}, "\n", api.OK},
		{"one", []pairline.Pair{pair("a", "b")}, "a=b\n\n", api.OK},
		{"one twice", []pairline.Pair{pair("a", "b"), pair("c", ""), pair("a", "b")}, "a=b\nc=\na=b\n\n", api.OK},
		{"wrong", []pairline.Pair{wrong}, "", api.ErrForm},
		{"long", []pairline.Pair{long}, "", api.ErrLong},
		{"wrong ahead of long", []pairline.Pair{pair("a", "b"), wrong, long}, "", api.ErrForm},
		{"long ahead of wrong", []pairline.Pair{pair("a", "b"), long, wrong}, "", api.ErrLong},
		{"400, the last one wrong", append(many(399), wrong), "", api.ErrForm},
		{"401, the first one wrong", append([]pairline.Pair{wrong}, many(400)...), "", api.ErrLong},
		{"401", many(401), "", api.ErrLong},
	} {
		if text, fail := pairline.Block(c.l...); text != c.text || fail != c.fail {
			t.Errorf("Block, %s: %q, %v", c.name, text, fail)
		}
	}
	if text, fail := pairline.Block(many(400)...); fail != api.OK || strings.Count(text, "\n") != 401 || !strings.HasSuffix(text, "a=\n\n") {
		t.Errorf("Block of 400: %q, %v", text, fail)
	}
}

// P36.2: the pairs of a block, or why it is none: its form, ahead of how many lines, ahead of the lines.
func TestRead(t *testing.T) {
	line, long := "a=\n", "a="+x(511)+"\n"
	for _, c := range []struct {
		name string
		s    string
		l    []pairline.Pair
		fail api.Errno
	}{
		{"no lines", "\n", nil, api.OK},
		{"one", "a=b\n\n", []pairline.Pair{pair("a", "b")}, api.OK},
		{"one twice", "a=b\nc=\na=b\n\n", []pairline.Pair{pair("a", "b"), pair("c", ""), pair("a", "b")}, api.OK},
		{"nothing", "", nil, api.ErrForm},
		{"no end", "a=b", nil, api.ErrForm},
		{"no empty line", "a=b\n", nil, api.ErrForm},
		{"end behind", "a=b\n\nx", nil, api.ErrForm},
		{"pair behind", "a=b\n\nc=d\n", nil, api.ErrForm},
		{"two blocks", "a=b\n\nc=d\n\n", nil, api.ErrForm},
		{"two empty lines", "\n\n", nil, api.ErrForm},
		{"two empty lines behind", "a=b\n\n\n", nil, api.ErrForm},
		{"empty line ahead", "\na=b\n\n", nil, api.ErrForm},
		{"bytes 13", "a=b\r\n\r\n", nil, api.ErrForm},
		{"a blank line", "a=b\n \n\n", nil, api.ErrForm},
		{"a blank line at the end", "a=b\n \n", nil, api.ErrForm},
		{"no pair", "a\n\n", nil, api.ErrForm},
		{"no key", "=a\n\n", nil, api.ErrForm},
		{"long", long + "\n", nil, api.ErrLong},
		{"wrong ahead of long", line + "a\n" + long + "\n", nil, api.ErrForm},
		{"long ahead of wrong", line + long + "a\n\n", nil, api.ErrLong},
		{"long, and no empty line", long + line, nil, api.ErrForm},
		{"long, and an empty line", long + "\n" + line + "\n", nil, api.ErrForm},
		{"400, the last one wrong", strings.Repeat(line, 399) + "a\n\n", nil, api.ErrForm},
		{"401, the first one wrong", "a\n" + strings.Repeat(line, 400) + "\n", nil, api.ErrLong},
		{"401", strings.Repeat(line, 401) + "\n", nil, api.ErrLong},
		{"401, and an empty line", strings.Repeat(line, 400) + "\n" + line + "\n", nil, api.ErrForm},
		{"401, and no empty line", strings.Repeat(line, 401), nil, api.ErrForm},
	} {
		if l, fail := pairline.Read(c.s); !slices.Equal(l, c.l) || fail != c.fail || fail != api.OK && l != nil {
			t.Errorf("Read, %s: %q, %v", c.name, l, fail)
		}
	}
	if l, fail := pairline.Read(strings.Repeat(line, 400) + "\n"); len(l) != 400 || fail != api.OK {
		t.Errorf("Read of 400: %d, %v", len(l), fail)
	}
}

// anyText is a short text of few signs.
func anyText(source *rand.Rand, signs string, most int) string {
	b := make([]byte, source.Intn(most+1))
	for i := range b {
		b[i] = signs[source.Intn(len(signs))]
	}
	return string(b)
}

// P36.3: each block is read as its pairs, and what is read has just that block.
func TestFollows(t *testing.T) {
	source := rand.New(rand.NewSource(36))
	written, read := 0, 0
	for range 20000 {
		var l []pairline.Pair
		for range source.Intn(4) {
			l = append(l, pair(anyText(source, "abcdefg\xff=", 3), anyText(source, "ab= \x00\xffcdef\n", 3)))
		}
		if text, fail := pairline.Block(l...); fail == api.OK {
			written++
			if back, fail := pairline.Read(text); fail != api.OK || !slices.Equal(back, l) {
				t.Fatalf("Read(%q): %q, %v", text, back, fail)
			}
		}
		s := anyText(source, "a=\n", 9)
		if source.Intn(2) == 0 {
			s += "\n\n"
		}
		if l, fail := pairline.Read(s); fail == api.OK {
			read++
			if text, fail := pairline.Block(l...); fail != api.OK || text != s {
				t.Fatalf("Block(%q): %q, %v", l, text, fail)
			}
		}
	}
	if written < 500 || read < 500 {
		t.Errorf("%d written, %d read", written, read)
	}
}

// R2: what is handed in is not changed, and what is answered is new.
func TestAnew(t *testing.T) {
	l := append(make([]pairline.Pair, 0, 9), pair("a", "b"), pair("c", "d"))
	pairline.Block(l...)
	if l[0] != pair("a", "b") || l[1] != pair("c", "d") || l[:3][2] != pair("", "") {
		t.Errorf("handed in: %q", l)
	}
	first, _ := pairline.Read("a=b\n\n")
	first[0] = pair("", "")
	if again, _ := pairline.Read("a=b\n\n"); again[0] != pair("a", "b") {
		t.Errorf("Read: %q", again)
	}
}

// The chapter's examples.
func TestExample(t *testing.T) {
	if l, fail := pairline.Read("a=b\n\n"); fail != api.OK || !slices.Equal(l, []pairline.Pair{pair("a", "b")}) {
		t.Errorf("Read: %q, %v", l, fail)
	}
	if l, fail := pairline.Read(""); fail != api.ErrForm || l != nil {
		t.Errorf("Read of the empty text: %q, %v", l, fail)
	}
}
