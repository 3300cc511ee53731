package quad_test

import (
	"strconv"
	"strings"
	"testing"

	"crawlway/api"
	"crawlway/quad"
)

// P8.1: numbers in their order, none with noughts ahead.
func TestText(t *testing.T) {
	for want, b := range map[string][4]byte{
		"0.0.0.0":         {},
		"1.2.3.4":         {1, 2, 3, 4},
		"10.0.0.1":        {10, 0, 0, 1},
		"255.255.255.255": {255, 255, 255, 255},
		"9.10.99.100":     {9, 10, 99, 100},
		"127.128.200.7":   {127, 128, 200, 7},
	} {
		if got := quad.Text(b); got != want {
			t.Errorf("Text(%v): %s", b, got)
		}
	}
}

// P8.2, P8.3: each byte at each place is read as it is written.
func TestParseText(t *testing.T) {
	for n := range 256 {
		for i := range 4 {
			b := [4]byte{1, 22, 133, 244}
			b[i] = byte(n)
			parts := []string{"1", "22", "133", "244"}
			parts[i] = strconv.Itoa(n)
			text := strings.Join(parts, ".")
			if quad.Text(b) != text {
				t.Errorf("Text(%v): %s", b, quad.Text(b))
			}
			if got, fail := quad.Parse(text); got != b || fail != api.OK {
				t.Errorf("Parse(%s): %v, %v", text, got, fail)
			}
		}
	}
}

// P8.2: not four parts, whatever they are.
func TestParseParts(t *testing.T) {
	for _, s := range []string{
		"", ".", "..", "1", "1.2", "1.2.3", "1.2.3.4.5", "1.2.3.4.", ".1.2.3.4", "1..2.3.4", "256", "256.256.256", "256.1.1.1.1", "1,2,3,4", "1:2:3:4", strings.Repeat("1.", 1000),
	} {
		if b, fail := quad.Parse(s); b != ([4]byte{}) || fail != api.ErrForm {
			t.Errorf("Parse(%.40q): %v, %v", s, b, fail)
		}
	}
}

// P8.2: the first part that is wrong tells. The first two are the chapter's examples.
func TestParseWrong(t *testing.T) {
	for s, want := range map[string]api.Errno{
		"10.0.0.256":                  api.ErrRange,
		"10.0.0.01":                   api.ErrForm,
		"256.0.0.0":                   api.ErrRange,
		"0.256.0.0":                   api.ErrRange,
		"0.0.256.0":                   api.ErrRange,
		"a.0.0.256":                   api.ErrForm,
		"256.0.0.a":                   api.ErrRange,
		"1.256.01.1":                  api.ErrRange,
		"1.01.256.1":                  api.ErrForm,
		"...":                         api.ErrForm,
		"256...":                      api.ErrRange,
		"1.2.3.":                      api.ErrForm,
		".2.3.4":                      api.ErrForm,
		"1..3.4":                      api.ErrForm,
		"1.2.3.-4":                    api.ErrForm,
		"1.2.3.+4":                    api.ErrForm,
		" 1.2.3.4":                    api.ErrForm,
		"1.2.3.4 ":                    api.ErrForm,
		"1.2.3.4\n":                   api.ErrForm,
		"1.2.3.0x4":                   api.ErrForm,
		"1.2.3.00":                    api.ErrForm,
		"1.2.3.a":                     api.ErrForm,
		"1.2.3.99999999999999999999":  api.ErrRange,
		"1.2.3.18446744073709551617":  api.ErrRange,
		"1.2.3.99999999999999999999x": api.ErrForm,
	} {
		if b, fail := quad.Parse(s); b != ([4]byte{}) || fail != want {
			t.Errorf("Parse(%q): %v, %v", s, b, fail)
		}
	}
}

// P8.3: of all texts of few bytes, those that are parsed are the text of what they are parsed as.
func TestParseIsText(t *testing.T) {
	parsed := 0
	var grow func(s string)
	grow = func(s string) {
		if b, fail := quad.Parse(s); fail == api.OK {
			parsed++
			if quad.Text(b) != s {
				t.Errorf("Parse(%q): %v", s, b)
			}
		} else if b != ([4]byte{}) {
			t.Errorf("Parse(%q): %v beside %v", s, b, fail)
		}
		if len(s) < 9 {
			for _, c := range "012." {
				grow(s + string(c))
			}
		}
	}
	grow("")
	// Of seven bytes each part is one of three digits; of eight one part of four has two (the first one no nought); of nine either one has three (the first one 1, or 2 up to 222 at most), or two have two each.
	if want := 81 + 4*6*27 + 4*18*27 + 6*36*9; parsed != want {
		t.Errorf("%d texts are parsed, not %d", parsed, want)
	}
}
