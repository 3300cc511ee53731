package keys_test

import (
	"bytes"
	"encoding/base64"
	"encoding/hex"
	"math/rand"
	"slices"
	"strings"
	"testing"

	"crawlway/api"
	"crawlway/keys"
)

// someKeys are the zero key, the greatest one, keys of one bit each, and keys of any bytes.
func someKeys() []api.Key {
	list := []api.Key{{}, api.Key(bytes.Repeat([]byte{255}, 32))}
	for i := range 256 {
		var k api.Key
		k[i/8] = 1 << (i % 8)
		list = append(list, k)
	}
	source := rand.New(rand.NewSource(7))
	for range 100 {
		var k api.Key
		source.Read(k[:])
		list = append(list, k)
	}
	return list
}

// P7.1: just 32 bytes are a key, and these.
func TestOf(t *testing.T) {
	for size := range 70 {
		b := make([]byte, size)
		for i := range b {
			b[i] = byte(i + 1)
		}
		k, fail := keys.Of(b)
		switch {
		case size < 32 && (fail != api.ErrShort || k != api.Key{}),
			size > 32 && (fail != api.ErrLong || k != api.Key{}),
			size == 32 && (fail != api.OK || !bytes.Equal(k[:], b)):
			t.Errorf("Of %d bytes: %v, %v", size, k, fail)
		}
	}
	if k, fail := keys.Of(nil); k != (api.Key{}) || fail != api.ErrShort {
		t.Errorf("Of(nil): %v, %v", k, fail)
	}
}

// P7.2: both texts of a key, as others write them, are parsed as the key.
func TestTexts(t *testing.T) {
	for _, k := range someKeys() {
		text, digits := keys.Text(k), keys.Hex(k)
		if text != base64.StdEncoding.EncodeToString(k[:]) || digits != hex.EncodeToString(k[:]) {
			t.Errorf("%v: %s, %s", k, text, digits)
		}
		if got, fail := keys.Parse(text); got != k || fail != api.OK {
			t.Errorf("Parse(%s): %v, %v", text, got, fail)
		}
		if got, fail := keys.ParseHex(digits); got != k || fail != api.OK {
			t.Errorf("ParseHex(%s): %v, %v", digits, got, fail)
		}
	}
}

// The chapter's examples: the texts of the zero key.
func TestZeroTexts(t *testing.T) {
	if got := keys.Hex(api.Key{}); got != strings.Repeat("0", 64) {
		t.Error(got)
	}
	if got := keys.Text(api.Key{}); got != strings.Repeat("A", 43)+"=" {
		t.Error(got)
	}
}

// P7.2: the errors of the text come ahead of those of the bytes.
func TestParseWrong(t *testing.T) {
	for s, want := range map[string]api.Errno{
		"":                               api.ErrShort,
		"AAAA":                           api.ErrShort,
		"AA==":                           api.ErrShort,
		"AB==":                           api.ErrZero,
		"AAB=":                           api.ErrZero,
		"A":                              api.ErrForm,
		"AAA":                            api.ErrForm,
		"AAA\n":                          api.ErrForm,
		strings.Repeat("A", 40):          api.ErrShort,
		strings.Repeat("A", 42) + "==":   api.ErrShort,
		strings.Repeat("A", 43):          api.ErrForm,
		strings.Repeat("A", 43) + "-":    api.ErrForm,
		strings.Repeat("A", 42) + "-=":   api.ErrForm,
		strings.Repeat("A", 42) + "B=":   api.ErrZero,
		strings.Repeat("A", 44):          api.ErrLong,
		strings.Repeat("A", 46) + "==":   api.ErrLong,
		strings.Repeat("A", 46) + "B=":   api.ErrZero,
		strings.Repeat("A", 47) + "*":    api.ErrForm,
		strings.Repeat("A", 43) + "= ":   api.ErrForm,
		" " + strings.Repeat("A", 43):    api.ErrForm,
		strings.Repeat("A", 43) + "=AAA": api.ErrForm,
		strings.Repeat("0", 64):          api.ErrLong,
	} {
		if k, fail := keys.Parse(s); k != (api.Key{}) || fail != want {
			t.Errorf("Parse(%q): %v, %v", s, k, fail)
		}
	}
}

// P7.2: likewise of digits.
func TestParseHexWrong(t *testing.T) {
	for s, want := range map[string]api.Errno{
		"":                             api.ErrShort,
		"00":                           api.ErrShort,
		"0":                            api.ErrForm,
		"0g":                           api.ErrForm,
		"0A":                           api.ErrForm,
		strings.Repeat("0", 62):        api.ErrShort,
		strings.Repeat("0", 63):        api.ErrForm,
		strings.Repeat("0", 63) + "F":  api.ErrForm,
		strings.Repeat("0", 65):        api.ErrForm,
		strings.Repeat("0", 66):        api.ErrLong,
		strings.Repeat("0", 65) + "x":  api.ErrForm,
		strings.Repeat("0", 64) + "\n": api.ErrForm,
		keys.Text(api.Key{}):           api.ErrForm,
	} {
		if k, fail := keys.ParseHex(s); k != (api.Key{}) || fail != want {
			t.Errorf("ParseHex(%q): %v, %v", s, k, fail)
		}
	}
}

// P7.3: one bit, wherever it is, makes a key not zero.
func TestZero(t *testing.T) {
	for i, k := range someKeys() {
		if keys.Zero(k) != (i == 0) {
			t.Errorf("Zero(%v)", k)
		}
	}
}

// P7.3: the first byte at which keys are unlike tells, as a number from 0 to 255.
func TestLess(t *testing.T) {
	for _, c := range []struct {
		a, b api.Key
		want bool
	}{
		{api.Key{}, api.Key{}, false},
		{api.Key{}, api.Key{31: 1}, true},
		{api.Key{31: 1}, api.Key{}, false},
		{api.Key{0: 1}, api.Key{0: 2}, true},
		{api.Key{0: 1, 31: 255}, api.Key{0: 2}, true},
		{api.Key{0: 2}, api.Key{0: 1, 31: 255}, false},
		{api.Key{0: 127}, api.Key{0: 128}, true},
		{api.Key{0: 5, 1: 9, 2: 1}, api.Key{0: 5, 1: 10}, true},
		{api.Key{7: 3}, api.Key{7: 3}, false},
	} {
		if keys.Less(c.a, c.b) != c.want {
			t.Errorf("Less(%v, %v)", c.a, c.b)
		}
	}
	list := someKeys()
	for _, a := range list {
		for _, b := range list {
			if keys.Less(a, b) != (slices.Compare(a[:], b[:]) < 0) {
				t.Errorf("Less(%v, %v)", a, b)
			}
		}
	}
}

// P7.3: five bits are set as they must be, all others stay, and the key that is handed in does, too.
func TestClamp(t *testing.T) {
	for _, k := range someKeys() {
		was := k
		got := keys.Clamp(k)
		if k != was {
			t.Errorf("%v was changed: %v", was, k)
		}
		if got[0]&7 != 0 || got[31]&128 != 0 || got[31]&64 != 64 {
			t.Errorf("Clamp(%v): %v", k, got)
		}
		if got[0]>>3 != k[0]>>3 || got[31]&63 != k[31]&63 || !bytes.Equal(got[1:31], k[1:31]) {
			t.Errorf("Clamp(%v): %v", k, got)
		}
		if keys.Clamp(got) != got {
			t.Errorf("Clamp(%v) twice", k)
		}
	}
	if got := keys.Clamp(api.Key{}); got != (api.Key{31: 64}) {
		t.Error(got)
	}
}

// R2: a key does not hang on the bytes that it was made of.
func TestAnew(t *testing.T) {
	b := make([]byte, 32)
	k, _ := keys.Of(b)
	b[0] = 1
	if !keys.Zero(k) {
		t.Error(k)
	}
}
