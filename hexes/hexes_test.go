package hexes_test

import (
	"bytes"
	"strconv"
	"strings"
	"testing"

	"crawlway/api"
	"crawlway/hexes"
)

// P5.1: ordinary bytes, and none.
func TestEncode(t *testing.T) {
	for b, want := range map[string]string{"": "", "\x0a\xff": "0aff", "\x00": "00", "\x01\x23\x45\x67\x89\xab\xcd\xef": "0123456789abcdef", "az": "617a"} {
		if got := hexes.Encode([]byte(b)); got != want {
			t.Errorf("Encode(%q): %s", b, got)
		}
		if got, fail := hexes.Decode(want); fail != api.OK || string(got) != b {
			t.Errorf("Decode(%s): %v, %v", want, got, fail)
		}
	}
	if got := hexes.Encode(nil); got != "" {
		t.Error(got)
	}
}

// P5.1: each byte, as its two digits.
func TestEncodeAll(t *testing.T) {
	all, text := []byte{}, ""
	for c := range 256 {
		all = append(all, byte(c))
		two := strconv.FormatInt(int64(c), 16)
		text += strings.Repeat("0", 2-len(two)) + two
	}
	if got := hexes.Encode(all); got != text {
		t.Error(got)
	}
	if got, fail := hexes.Decode(text); fail != api.OK || !bytes.Equal(got, all) {
		t.Error(got, fail)
	}
}

// P5.1: odd numbers of bytes, and bytes that are no small digits, at either place.
func TestDecodeForm(t *testing.T) {
	for _, s := range []string{"0", "0af", "0A", "A0", "0F", "FF", "0g", "g0", "0x", " 0", "0 ", "00\n0", "-1", "é", "00000", "0\xff", "００"} {
		if b, fail := hexes.Decode(s); fail != api.ErrForm || len(b) != 0 {
			t.Errorf("Decode(%q): %v, %v", s, b, fail)
		}
	}
	for c := range 256 {
		if strings.IndexByte("0123456789abcdef", byte(c)) >= 0 {
			continue
		}
		for at := range 4 {
			s := []byte("0af1")
			s[at] = byte(c)
			if b, fail := hexes.Decode(string(s)); fail != api.ErrForm || len(b) != 0 {
				t.Errorf("Decode(%q): %v, %v", s, b, fail)
			}
		}
	}
}

// P5.2: every number, in as few digits as it takes; read with noughts ahead and with great letters, too.
func TestGroups(t *testing.T) {
	for i := range 1 << 16 {
		n := uint16(i)
		text := hexes.Group(n)
		if text != strconv.FormatInt(int64(i), 16) {
			t.Fatalf("Group(%d): %s", i, text)
		}
		for _, s := range []string{text, strings.ToUpper(text), strings.Repeat("0", 4-len(text)) + text} {
			if got, fail := hexes.ReadGroup(s); got != n || fail != api.OK {
				t.Fatalf("ReadGroup(%s): %d, %v", s, got, fail)
			}
		}
	}
}

// P5.2: the examples, and the edges of what is read.
func TestReadGroup(t *testing.T) {
	for s, want := range map[string]uint16{"0": 0, "0000": 0, "0fF": 255, "00fF": 255, "FfFf": 65535, "aBcD": 0xabcd, "1": 1, "000f": 15} {
		if got, fail := hexes.ReadGroup(s); got != want || fail != api.OK {
			t.Errorf("ReadGroup(%s): %d, %v", s, got, fail)
		}
	}
	for _, s := range []string{"", "00000", "10000", "00001", "fffff", "g", "G", "0g", "1g00", " 1", "1 ", "-1", "+1", "0x1", "1:", "é", "１", "\xff", "12\x00", "@", "`", "/"} {
		if got, fail := hexes.ReadGroup(s); got != 0 || fail != api.ErrForm {
			t.Errorf("ReadGroup(%q): %d, %v", s, got, fail)
		}
	}
	if hexes.Group(255) != "ff" || hexes.Group(0) != "0" || hexes.Group(65535) != "ffff" || hexes.Group(4096) != "1000" {
		t.Error("Group")
	}
}

// P5.2: every single byte that is no digit, at every place.
func TestReadGroupNoDigit(t *testing.T) {
	for c := range 256 {
		if strings.IndexByte("0123456789abcdefABCDEF", byte(c)) >= 0 {
			continue
		}
		for at := range 4 {
			s := []byte("1aF0")
			s[at] = byte(c)
			if got, fail := hexes.ReadGroup(string(s)); got != 0 || fail != api.ErrForm {
				t.Errorf("ReadGroup(%q): %d, %v", s, got, fail)
			}
		}
	}
}

// R2: what is handed in is not changed, and an answer is new.
func TestAnew(t *testing.T) {
	in := []byte{1, 171}
	hexes.Encode(in)
	if !bytes.Equal(in, []byte{1, 171}) {
		t.Error(in)
	}
	a, _ := hexes.Decode("01ab")
	a[0] = 9
	if b, _ := hexes.Decode("01ab"); !bytes.Equal(b, in) {
		t.Error(b)
	}
}
