package colon_test

import (
	"math/rand"
	"net/netip"
	"strings"
	"testing"

	"crawlway/api"
	"crawlway/colon"
)

// bytesOf are the bytes of eight groups.
func bytesOf(groups ...uint16) [16]byte {
	var b [16]byte
	for i, n := range groups {
		b[2*i], b[2*i+1] = byte(n>>8), byte(n)
	}
	return b
}

// P9.1: groups in few digits, and :: in the place of the longest run of groups 0.
func TestText(t *testing.T) {
	for want, b := range map[string][16]byte{
		"::":                    {},
		"::1":                   {15: 1},
		"1::":                   {1: 1},
		"::100":                 {14: 1},
		"100::":                 {0: 1},
		"1:2:3:4:5:6:7:8":       bytesOf(1, 2, 3, 4, 5, 6, 7, 8),
		"1:0:3:4:5:6:7:8":       bytesOf(1, 0, 3, 4, 5, 6, 7, 8),
		"0:2:3:4:5:6:7:8":       bytesOf(0, 2, 3, 4, 5, 6, 7, 8),
		"1:2:3:4:5:6:7:0":       bytesOf(1, 2, 3, 4, 5, 6, 7, 0),
		"0:2:0:4:0:6:0:8":       bytesOf(0, 2, 0, 4, 0, 6, 0, 8),
		"::3:4:5:6:7:8":         bytesOf(0, 0, 3, 4, 5, 6, 7, 8),
		"1:2:3:4:5:6::":         bytesOf(1, 2, 3, 4, 5, 6, 0, 0),
		"1::4:5:6:7:8":          bytesOf(1, 0, 0, 4, 5, 6, 7, 8),
		"2001:db8::1:0:0:1":     bytesOf(0x2001, 0xdb8, 0, 0, 1, 0, 0, 1),
		"::3:0:0:6:7:8":         bytesOf(0, 0, 3, 0, 0, 6, 7, 8),
		"0:0:3::7:8":            bytesOf(0, 0, 3, 0, 0, 0, 7, 8),
		"1:0:0:4::":             bytesOf(1, 0, 0, 4, 0, 0, 0, 0),
		"0:2::5:0:0:8":          bytesOf(0, 2, 0, 0, 5, 0, 0, 8),
		"::ffff:102:304":        bytesOf(0, 0, 0, 0, 0, 0xffff, 0x102, 0x304),
		"fe80::a0":              bytesOf(0xfe80, 0, 0, 0, 0, 0, 0, 0xa0),
		"abcd:ef01:2345:6789::": bytesOf(0xabcd, 0xef01, 0x2345, 0x6789),
		"ffff:ffff:ffff:ffff:ffff:ffff:ffff:ffff": bytesOf(0xffff, 0xffff, 0xffff, 0xffff, 0xffff, 0xffff, 0xffff, 0xffff),
	} {
		if got := colon.Text(b); got != want {
			t.Errorf("Text(%v): %s, not %s", b, got, want)
		}
		if got, fail := colon.Parse(want); got != b || fail != api.OK {
			t.Errorf("Parse(%s): %v, %v", want, got, fail)
		}
	}
}

// P9.2: what is read besides texts: noughts ahead, great letters, quads, and :: of any length at any place.
func TestParse(t *testing.T) {
	for s, want := range map[string]string{
		"0:0:0:0:0:0:0:0":                         "::",
		"0000:0000:0000:0000:0000:0000:0000:0000": "::",
		"0:0:0:0:0:0:0:1":                         "::1",
		"2001:DB8:0:0:1:0:0:1":                    "2001:db8::1:0:0:1",
		"2001:0dB8::0001":                         "2001:db8::1",
		"1::3:4:5:6:7:8":                          "1:0:3:4:5:6:7:8",
		"::2:3:4:5:6:7:8":                         "0:2:3:4:5:6:7:8",
		"1:2:3:4:5:6:7::":                         "1:2:3:4:5:6:7:0",
		"1:0::0:8":                                "1::8",
		"::0":                                     "::",
		"0::":                                     "::",
		"::0:0":                                   "::",
		"::1.2.3.4":                               "::102:304",
		"::ffff:1.2.3.4":                          "::ffff:102:304",
		"::0.0.0.0":                               "::",
		"1:2:3:4:5:6:1.2.3.4":                     "1:2:3:4:5:6:102:304",
		"1:2:3:4:5::1.2.3.4":                      "1:2:3:4:5:0:102:304",
		"::2:3:4:5:6:1.2.3.4":                     "0:2:3:4:5:6:102:304",
		"1::255.254.253.252":                      "1::fffe:fdfc",
	} {
		b, fail := colon.Parse(s)
		if got := colon.Text(b); got != want || fail != api.OK {
			t.Errorf("Parse(%s): %s, %v", s, got, fail)
		}
	}
}

// P9.2: nothing that is read; a quad with a number that is too great is none either.
func TestParseWrong(t *testing.T) {
	for _, s := range []string{
		"", ":", ":::", "::::", "1", "1.2.3.4", "1:", ":1", "1:::2", ":::1", "1:::", "::1::", "1::2::3", "::1::2", "::::1",
		"1:2", "1:2:3:4:5:6:7", "1:2:3:4:5:6:7:", ":1:2:3:4:5:6:7", "1:2:3:4:5:6:7:8:", ":1:2:3:4:5:6:7:8", "1:2:3:4:5:6:7:8:9", ":2:3:4:5:6:7:8", ":1::", "::1:", "1::2:",
		"1:2:3:4:5:6:7:8::", "::1:2:3:4:5:6:7:8", "1:2:3:4::5:6:7:8", "1:2:3:4:5:6:7:8:9::", "1:2:3:4::5:6:7:8:9",
		"12345::", "::00001", "::g", "::-1", ":: ", " ::", "::1 ", "::\n", "::1%0", "::1/128", "[::1]", "::+1", "::0x1", "1::\xff",
		"1.2.3.4::", "::1.2.3.4:5", "1.2.3.4:5::", "::1.2.3.4::", "1.2.3.4:1:2:3:4:5:6", "1:1.2.3.4:2:3:4:5:6", "1::1.2.3.4:1.2.3.4",
		"1:2:3:4:5:6:7:1.2.3.4", "1:2:3:4:5:1.2.3.4", "1:2:3:4:5:6::1.2.3.4", "::1:2:3:4:5:6:1.2.3.4",
		"::1.2.3", "::1.2.3.4.5", "::1.2.3.256", "::256.2.3.4", "::1.2.3.04", "::1.2.3.", "::.2.3.4", "::1.2.3.a", ":1.2.3.4", "::ffff:1.2.3.4 ",
		strings.Repeat("1:", 1000), strings.Repeat("1:", 1000) + "1", strings.Repeat("1:", 1000) + ":1", "::" + strings.Repeat("1:", 1000) + "1",
	} {
		if b, fail := colon.Parse(s); b != ([16]byte{}) || fail != api.ErrForm {
			t.Errorf("Parse(%.60q): %v, %v", s, b, fail)
		}
	}
}

// someBytes has every choice of groups that are 0, with the others of one to four digits.
func someBytes() [][16]byte {
	source := rand.New(rand.NewSource(9))
	var list [][16]byte
	for zeros := range 256 {
		for range 4 {
			var groups [8]uint16
			for i := range groups {
				if zeros>>i&1 == 0 {
					groups[i] = uint16(source.Intn(65535)+1)>>(4*source.Intn(4)) | 1
				}
			}
			list = append(list, bytesOf(groups[:]...))
		}
	}
	return list
}

// P9.1, P9.3: a text is the one that the library writes (but for quads), and is parsed as its bytes.
func TestTextAndBack(t *testing.T) {
	for _, b := range someBytes() {
		text := colon.Text(b)
		if a := netip.AddrFrom16(b); !a.Is4In6() && a.String() != text {
			t.Errorf("Text(%v): %s, not %s", b, text, a)
		}
		if got, fail := colon.Parse(text); got != b || fail != api.OK {
			t.Errorf("Parse(%s): %v, %v", text, got, fail)
		}
	}
}

// P9.3: all texts without a quad and without noughts ahead: with no ::, or :: in the place of any groups 0 side by side.
func TestShort(t *testing.T) {
	for _, b := range someBytes() {
		text := colon.Text(b)
		groups := strings.Split(netipGroups(b), ":")
		for from := range groups {
			for to := from + 1; to <= len(groups) && groups[to-1] == "0"; to++ {
				other := strings.Join(groups[:from], ":") + "::" + strings.Join(groups[to:], ":")
				if got, fail := colon.Parse(other); got != b || fail != api.OK {
					t.Errorf("Parse(%s): %v, %v", other, got, fail)
				}
				if len(other) < len(text)-1 {
					t.Errorf("Text(%v): %s, but %s", b, text, other)
				}
			}
		}
	}
}

// netipGroups are all eight groups of bytes, without noughts ahead.
func netipGroups(b [16]byte) string {
	groups := strings.Split(netip.AddrFrom16(b).StringExpanded(), ":")
	for i, g := range groups {
		if groups[i] = strings.TrimLeft(g, "0"); groups[i] == "" {
			groups[i] = "0"
		}
	}
	return strings.Join(groups, ":")
}

// P9.2: texts made of any pieces are read just where the library reads them.
func TestParseAsLibrary(t *testing.T) {
	source := rand.New(rand.NewSource(10))
	pieces := []string{":", ":", ":", ":", ":", "::", "::", "1", "0", "a", "F", "00", "abcd", "0123", "12345", "1.2.3.4", "1.2.3", ".", "g"}
	read := 0
	for range 300000 {
		var text strings.Builder
		for range source.Intn(17) {
			text.WriteString(pieces[source.Intn(len(pieces))])
		}
		s := text.String()
		a, err := netip.ParseAddr(s)
		want, fails := [16]byte{}, api.ErrForm
		if err == nil && a.Is6() {
			want, fails = a.As16(), api.OK
			read++
		}
		if got, fail := colon.Parse(s); got != want || fail != fails {
			t.Fatalf("Parse(%q): %v, %v", s, got, fail)
		}
	}
	if read < 1000 {
		t.Errorf("only %d texts were read", read)
	}
}
