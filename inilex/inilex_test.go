package inilex_test

import (
	"math/rand"
	"reflect"
	"regexp"
	"strings"
	"testing"

	"crawlway/api"
	"crawlway/inilex"
)

func section(name string, line int) inilex.Item {
	return inilex.Item{Section: true, Name: name, Line: line}
}

func pair(name, value string, line int) inilex.Item {
	return inilex.Item{Name: name, Value: value, Line: line}
}

// says asks for the items of a text with which nothing is wrong.
func says(t *testing.T, s string, want ...inilex.Item) {
	t.Helper()
	if got, line, fail := inilex.Lex(s); len(got)+len(want) > 0 && !reflect.DeepEqual(got, want) || line != 0 || fail != api.OK {
		t.Errorf("Lex(%.200q): %v, %d, %v, not %v", s, got, line, fail, want)
	}
}

// fails asks for what is told of a text with which something is wrong.
func fails(t *testing.T, s string, line int, want api.Errno) {
	t.Helper()
	if got, at, fail := inilex.Lex(s); len(got) != 0 || at != line || fail != want {
		t.Errorf("Lex(%.200q): %v, %d, %v, not %d, %v", s, got, at, fail, line, want)
	}
}

// P42.1: items in order, with the lines in which they stand; what says nothing is counted, too.
func TestItems(t *testing.T) {
	says(t, "[Interface]\nPrivateKey = x\n\n# a remark\n\t\r\n[Peer]\nA=1\nA=2\n[Peer]",
		section("interface", 1), pair("privatekey", "x", 2), section("peer", 6), pair("a", "1", 7), pair("a", "2", 8), section("peer", 9))
	says(t, "a=1\n", pair("a", "1", 1))
	says(t, "a=1", pair("a", "1", 1))
	says(t, "\n\n\na=1", pair("a", "1", 4))
	says(t, "b=2\r\n[c]\r\n\r\na=1\r\n", pair("b", "2", 1), section("c", 2), pair("a", "1", 4))
}

// P42.1: what says nothing.
func TestNothing(t *testing.T) {
	for _, s := range []string{"", "\n", "\n\n\n", " ", "\t", "\r", " \t\r \n \n", "#", "#\n", "  # [x", "##", "#=", "# a = b\n#\n", "\t#[]\r\n"} {
		says(t, s)
	}
}

// P42.1: sections in all their forms.
func TestSections(t *testing.T) {
	for s, name := range map[string]string{
		"[peer]":             "peer",
		"[PEER]":             "peer",
		"[ Peer ]":           "peer",
		" \t[\tPeer\r] \r":   "peer",
		"[Peer]#]":           "peer",
		"[Peer] # x":         "peer",
		"[Two Words]":        "two words",
		"[a=b]":              "a=b",
		"[=]":                "=",
		"[[x]]":              "[x]",
		"[]]":                "]",
		"[[]":                "[",
		"[ ] ]":              "]",
		"[a]b]":              "a]b",
		"[a] = [b]":          "a] = [b",
		"[ÄÖ\xff]":           "ÄÖ\xff",
		"[\v]":               "\v",
		"[@AZ[`az{]":         "@az[`az{",
		"[\u212a\u00a0\x00]": "\u212a\u00a0\x00",
	} {
		says(t, s, section(name, 1))
		says(t, "\n"+s+"\n", section(name, 2))
	}
}

// P42.1: pairs in all their forms.
func TestPairs(t *testing.T) {
	for s, p := range map[string][2]string{
		"a=b":                  {"a", "b"},
		"A = B":                {"a", "B"},
		"  Two Words =\tx y\r": {"two words", "x y"},
		"a=":                   {"a", ""},
		"a = ":                 {"a", ""},
		"a= # b":               {"a", ""},
		"a=b#c":                {"a", "b"},
		"a=b # c # d":          {"a", "b"},
		"a=b=c":                {"a", "b=c"},
		"a==":                  {"a", "="},
		"a = = b":              {"a", "= b"},
		"a]=b":                 {"a]", "b"},
		"]=[":                  {"]", "["},
		"a[=]":                 {"a[", "]"},
		"a = [b]":              {"a", "[b]"},
		"\v=\f":                {"\v", "\f"},
		"É\xff=É\xff":          {"É\xff", "É\xff"},
		"AZ@[`{az=AZ":          {"az@[`{az", "AZ"},
		"\x00=\u00a0":          {"\x00", "\u00a0"},
	} {
		says(t, s, pair(p[0], p[1], 1))
		says(t, "#\n\n"+s+"\n", pair(p[0], p[1], 3))
	}
}

// P42.1: what is neither a section nor a pair.
func TestForm(t *testing.T) {
	for _, s := range []string{
		"x", "=", "= 5", " =", "\t\r=x", "==", "=a=b", "x # = 5", "# x\nx", "[", "[]", "[ ]", "[\t\r]", "[a", "[a] b", "[a]=", "[a] = b", "[a#]", "[#a]", "[] = 5", "[ = 5", "]", "a]", "\u00a0 ", "\v", "x;y", "; a remark",
	} {
		fails(t, "a=1\n[b]\n"+s, 3+strings.Count(s, "\n"), api.ErrForm)
		fails(t, s+"\na=1\n=\n", 1+strings.Count(s, "\n"), api.ErrForm)
	}
}

// line is a line of so many bytes that says what it begins with.
func line(front string, size int) string { return front + strings.Repeat("x", size-len(front)) }

// P42.1: a line has at most 512 bytes, with all that counts for nothing, and without its end.
func TestLongLine(t *testing.T) {
	says(t, line("a=#", 512), pair("a", "", 1))
	says(t, line("a=", 512)+"\n"+line("#", 512)+"\n", pair("a", line("", 510), 1))
	says(t, strings.Repeat(" ", 511)+"#\n"+strings.Repeat("\r", 512))
	says(t, line("[", 511)+"]", section(line("", 510), 1))
	for _, s := range []string{line("a=", 513), line("#", 513), line("=", 513), line("[", 513), strings.Repeat(" ", 513), strings.Repeat("\r", 513), line("a=", 512) + "\r", line("x", 1<<20)} {
		fails(t, s, 1, api.ErrLong)
		fails(t, "[a]\n\n"+s+"\n=\n", 3, api.ErrLong)
		fails(t, "[a]\n=\n"+s, 2, api.ErrForm)
	}
}

// P42.1: there are at most 400 lines, be what is behind them anything or nothing.
func TestManyLines(t *testing.T) {
	var all []inilex.Item
	for i := range 400 {
		all = append(all, pair("a", "1", i+1))
	}
	s := strings.Repeat("a=1\n", 400)
	says(t, s, all...)
	says(t, s[:len(s)-1], all...)
	says(t, strings.Repeat("\n", 400))
	says(t, strings.Repeat("\n", 399)+"a=1", pair("a", "1", 400))
	for _, more := range []string{"a=1", "\n", "#", " ", "x\n", line("a=", 513), "\n\n\n", strings.Repeat("=\n", 1000)} {
		fails(t, s+more, 401, api.ErrLong)
		fails(t, strings.Repeat("\n", 400)+more, 401, api.ErrLong)
		fails(t, strings.Repeat("\n", 399)+"x\n"+more, 400, api.ErrForm)
	}
	fails(t, strings.Repeat("\n", 1<<20), 401, api.ErrLong)
}

// The forms of lines, each as one pattern.
var (
	silent    = regexp.MustCompile(`^[ \t\r]*(#.*)?$`)
	sectional = regexp.MustCompile(`^[ \t\r]*\[[ \t\r]*([^#]*?)[ \t\r]*\][ \t\r]*(#.*)?$`)
	bracketed = regexp.MustCompile(`^[ \t\r]*\[`)
	paired    = regexp.MustCompile(`^[ \t\r]*([^#=]*?)[ \t\r]*=[ \t\r]*([^#]*?)[ \t\r]*(#.*)?$`)
)

// plain is what short lines say, told by patterns.
func plain(l []string) ([]inilex.Item, int, api.Errno) {
	var items []inilex.Item
	for i, s := range l {
		var found []string
		isSection := bracketed.MatchString(s)
		switch {
		case silent.MatchString(s):
			continue
		case isSection:
			found = sectional.FindStringSubmatch(s)
		default:
			found = paired.FindStringSubmatch(s)
		}
		if found == nil || found[1] == "" {
			return nil, i + 1, api.ErrForm
		}
		item := inilex.Item{Section: isSection, Name: strings.ToLower(found[1]), Line: i + 1}
		if !isSection {
			item.Value = found[2]
		}
		items = append(items, item)
	}
	return items, 0, api.OK
}

// anyLine is some line of few bytes, of which some count.
func anyLine(source *rand.Rand) string {
	var b []byte
	for range source.Intn(9) {
		b = append(b, "[]=# \t\rAbz"[source.Intn(10)])
	}
	if source.Intn(3) == 0 {
		return "[" + string(b) + "]"
	}
	return string(b)
}

// P42.1: lines of any bytes, held against the patterns.
func TestPlain(t *testing.T) {
	source := rand.New(rand.NewSource(42))
	good := 0
	for range 60000 {
		l := []string{anyLine(source), anyLine(source)}[:1+source.Intn(2)]
		want, at, wrong := plain(l)
		s := strings.Join(l, "\n") + "\n"
		if got, line, fail := inilex.Lex(s); len(got)+len(want) > 0 && !reflect.DeepEqual(got, want) || line != at || fail != wrong {
			t.Fatalf("Lex(%q): %v, %d, %v, not %v, %d, %v", s, got, line, fail, want, at, wrong)
		}
		if wrong == api.OK {
			good++
		}
	}
	if good < 5000 || good > 55000 {
		t.Errorf("%d are good", good)
	}
}

// P1: at bytes of any kind it ends.
func TestEnds(t *testing.T) {
	source := rand.New(rand.NewSource(1))
	for range 20000 {
		b := make([]byte, source.Intn(40))
		source.Read(b)
		for i := range b {
			if source.Intn(2) == 0 {
				b[i] = "\n[]=# "[source.Intn(6)]
			}
		}
		if items, line, fail := inilex.Lex(string(b)); (line == 0) != (fail == api.OK) || fail != api.OK && items != nil {
			t.Fatalf("Lex(%q): %v, %d, %v", b, items, line, fail)
		}
	}
}

// R2: what is answered is new.
func TestAnew(t *testing.T) {
	const s = "[a]\nb=c\n"
	first, _, _ := inilex.Lex(s)
	first[0], first[1] = inilex.Item{}, inilex.Item{}
	says(t, s, section("a", 1), pair("b", "c", 2))
}

// The chapter's examples.
func TestExamples(t *testing.T) {
	says(t, "[ Peer ]", section("peer", 1))
	says(t, "A = b # c", pair("a", "b", 1))
}
