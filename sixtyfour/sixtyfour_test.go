package sixtyfour_test

import (
	"bytes"
	"encoding/base64"
	"math/rand"
	"strings"
	"testing"

	"crawlway/api"
	"crawlway/sixtyfour"
)

const signs = "ABCDEFGHIJKLMNOPQRSTUVWXYZabcdefghijklmnopqrstuvwxyz0123456789+/"

// P4.1: texts of every rest by three.
func TestEncode(t *testing.T) {
	for b, want := range map[string]string{
		"": "", "M": "TQ==", "Ma": "TWE=", "Man": "TWFu", "\x00": "AA==", "\x00\x00": "AAA=", "\x00\x00\x00": "AAAA",
		"\xff": "/w==", "\xff\xff": "//8=", "\xff\xff\xff": "////", "\xff\xfe": "//4=", "\xfb\xef\xbe": "++++",
		"f": "Zg==", "fo": "Zm8=", "foo": "Zm9v", "foob": "Zm9vYg==", "fooba": "Zm9vYmE=", "foobar": "Zm9vYmFy",
	} {
		if got := sixtyfour.Encode([]byte(b)); got != want {
			t.Errorf("Encode(%q): %s", b, got)
		}
	}
	if got := sixtyfour.Encode(nil); got != "" {
		t.Error(got)
	}
}

// P4.1, P4.2: each sign stands for its number.
func TestSigns(t *testing.T) {
	for i := range 64 {
		b := []byte{byte(i << 2), 0, 0}
		text := signs[i:i+1] + "AAA"
		if got := sixtyfour.Encode(b); got != text {
			t.Errorf("Encode(%v): %s", b, got)
		}
		if got, fail := sixtyfour.Decode(text); fail != api.OK || !bytes.Equal(got, b) {
			t.Errorf("Decode(%s): %v, %v", text, got, fail)
		}
	}
}

// P4.1, P4.2: bytes of many lengths are written as the library writes them, and read back.
func TestThereAndBack(t *testing.T) {
	from := rand.New(rand.NewSource(4))
	for n := range 200 {
		b := make([]byte, n)
		from.Read(b)
		text := sixtyfour.Encode(b)
		if text != base64.StdEncoding.EncodeToString(b) {
			t.Errorf("Encode(%v): %s", b, text)
		}
		if got, fail := sixtyfour.Decode(text); fail != api.OK || !bytes.Equal(got, b) {
			t.Errorf("Decode(%s): %v, %v", text, got, fail)
		}
	}
}

// P4.2: what is no text at all.
func TestDecodeForm(t *testing.T) {
	for _, s := range []string{
		"T", "TQ", "TWE", "TQ=", "TWFuT", "TWFuTQ", "TWFuTQ=", "=", "==", "===", "====", "T===", "=TQ=", "A=A=", "TQ=A", "TQ==TQ==", "TWE=TWFu", "TWE=TQ==",
		"TQ===", "TWFu=", "TWFu==", "TWFu====", "TW_u", "TW-u", "TW u", "TWF\n", "TWFu\n", "TWFu\r\n\r\n", "\nTWF", "TW\x00u", "TW\xffu", "TW\xc3\xa9", "TWF.",
		"TW@u", "TW[u", "TW`u", "TW{u", "TW:u", "TW,u", "TW*u", "?===", "?Q==", "?WE=",
		// What would be ErrZero in the last four, but something else is wrong.
		"TW_uTWF=", "T_F=", "_R==",
	} {
		if b, fail := sixtyfour.Decode(s); fail != api.ErrForm || len(b) != 0 {
			t.Errorf("Decode(%q): %v, %v", s, b, fail)
		}
	}
}

// P4.2: every byte that is no sign, at every place.
func TestDecodeNoSign(t *testing.T) {
	for c := range 256 {
		if strings.IndexByte(signs, byte(c)) >= 0 {
			continue
		}
		for at := range 8 {
			s := []byte("TWFuTWFu")
			s[at] = byte(c)
			if at == 7 && c == '=' {
				continue
			}
			if b, fail := sixtyfour.Decode(string(s)); fail != api.ErrForm || len(b) != 0 {
				t.Errorf("Decode(%q): %v, %v", s, b, fail)
			}
		}
	}
}

// P4.2, P4.3: of all signs ahead of the filling just those with bits 0 at their end are read.
func TestDecodeZero(t *testing.T) {
	for i := range 64 {
		one := "TWFuT" + signs[i:i+1] + "=="
		got, fail := sixtyfour.Decode(one)
		if i%16 != 0 && (fail != api.ErrZero || len(got) != 0) {
			t.Errorf("Decode(%s): %v, %v", one, got, fail)
		}
		if i%16 == 0 && (fail != api.OK || sixtyfour.Encode(got) != one || len(got) != 4) {
			t.Errorf("Decode(%s): %v, %v", one, got, fail)
		}
		two := "TWFuTW" + signs[i:i+1] + "="
		got, fail = sixtyfour.Decode(two)
		if i%4 != 0 && (fail != api.ErrZero || len(got) != 0) {
			t.Errorf("Decode(%s): %v, %v", two, got, fail)
		}
		if i%4 == 0 && (fail != api.OK || sixtyfour.Encode(got) != two || len(got) != 5) {
			t.Errorf("Decode(%s): %v, %v", two, got, fail)
		}
	}
	if b, fail := sixtyfour.Decode("TWF="); fail != api.ErrZero || len(b) != 0 {
		t.Error(b, fail)
	}
	if b, fail := sixtyfour.Decode(""); fail != api.OK || len(b) != 0 {
		t.Error(b, fail)
	}
}

// P4.3: whatever is decoded, of texts of few signs, is written as it was read; what is not, the library does not read either.
func TestWhatFollows(t *testing.T) {
	const few = "AQgw+/=-"
	from := rand.New(rand.NewSource(43))
	for range 200000 {
		s := make([]byte, from.Intn(13))
		for i := range s {
			s[i] = few[from.Intn(len(few))]
		}
		b, fail := sixtyfour.Decode(string(s))
		want, err := base64.StdEncoding.Strict().DecodeString(string(s))
		if (fail == api.OK) != (err == nil) {
			t.Fatalf("Decode(%q): %v, the library %v", s, fail, err)
		}
		if fail == api.OK && (!bytes.Equal(b, want) || sixtyfour.Encode(b) != string(s)) {
			t.Fatalf("Decode(%q): %v", s, b)
		}
	}
}

// R2: what is handed in is not changed, and an answer is new.
func TestAnew(t *testing.T) {
	in := []byte{1, 2, 3, 4}
	sixtyfour.Encode(in)
	if !bytes.Equal(in, []byte{1, 2, 3, 4}) {
		t.Error(in)
	}
	a, _ := sixtyfour.Decode("TWFu")
	a[0] = 0
	if b, _ := sixtyfour.Decode("TWFu"); string(b) != "Man" {
		t.Error(b)
	}
}
