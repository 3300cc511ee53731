package decimal_test

import (
	"math"
	"math/big"
	"strings"
	"testing"

	"crawlway/api"
	"crawlway/decimal"
)

// P3.1: the digits of small numbers, great ones, and those of a nought ahead of which something stands.
func TestText(t *testing.T) {
	for n, want := range map[uint64]string{
		0: "0", 1: "1", 9: "9", 10: "10", 100: "100", 1007: "1007", 65535: "65535",
		math.MaxInt64: "9223372036854775807", math.MaxInt64 + 1: "9223372036854775808",
		10000000000000000000: "10000000000000000000", math.MaxUint64: "18446744073709551615",
	} {
		if got := decimal.Text(n); got != want {
			t.Errorf("Text(%d): %s", n, got)
		}
	}
}

// P3.2: a text that is read is the one that is written.
func TestReadText(t *testing.T) {
	for i := range 64 {
		for _, n := range []uint64{1<<i - 1, 1 << i, 1<<i + 1, math.MaxUint64 - 1<<i} {
			if got, fail := decimal.Read(decimal.Text(n), n); got != n || fail != api.OK {
				t.Errorf("Read(%d): %d, %v", n, got, fail)
			}
			if n == 0 {
				continue
			}
			if got, fail := decimal.Read(decimal.Text(n), n-1); got != 0 || fail != api.ErrRange {
				t.Errorf("Read(%d) of at most one less: %d, %v", n, got, fail)
			}
		}
	}
}

// P3.2: what is no text of a number, whether or not it would be too great.
func TestReadForm(t *testing.T) {
	for _, s := range []string{
		"", "007", "00", "01", "000", "+1", "-1", "-0", " 1", "1 ", "1\n", "1a", "a", "0x1", "1_0", "1.", "1e3", "/", ":", "\x00", "\xff", "1\xff", "\xff1",
		"١", "1١", "\uff11", "99999999999999999999999x", "x99999999999999999999999", "0" + strings.Repeat("9", 30), "256 ",
	} {
		for _, most := range []uint64{0, 9, 255, math.MaxUint64} {
			if n, fail := decimal.Read(s, most); n != 0 || fail != api.ErrForm {
				t.Errorf("Read(%q, %d): %d, %v", s, most, n, fail)
			}
		}
	}
}

// P3.2: the edges of what may be read.
func TestReadRange(t *testing.T) {
	for _, c := range []struct {
		s    string
		most uint64
		want uint64
		fail api.Errno
	}{
		{"0", 0, 0, api.OK},
		{"0", math.MaxUint64, 0, api.OK},
		{"1", 0, 0, api.ErrRange},
		{"255", 255, 255, api.OK},
		{"256", 255, 0, api.ErrRange},
		{"65535", 65535, 65535, api.OK},
		{"65536", 65535, 0, api.ErrRange},
		{"18446744073709551615", math.MaxUint64, math.MaxUint64, api.OK},
		{"18446744073709551615", math.MaxUint64 - 1, 0, api.ErrRange},
		{"18446744073709551616", math.MaxUint64, 0, api.ErrRange},
		{"18446744073709551619", math.MaxUint64, 0, api.ErrRange},
		{"18446744073709551620", math.MaxUint64, 0, api.ErrRange},
		{"36893488147419103232", math.MaxUint64, 0, api.ErrRange},
		{"184467440737095516150", math.MaxUint64, 0, api.ErrRange},
		{"184467440737095516160", 0, 0, api.ErrRange},
		{"340282366920938463463374607431768211456", math.MaxUint64, 0, api.ErrRange},
		{"1" + strings.Repeat("0", 10000), math.MaxUint64, 0, api.ErrRange},
	} {
		if n, fail := decimal.Read(c.s, c.most); n != c.want || fail != c.fail {
			t.Errorf("Read(%.40s, %d): %d, %v", c.s, c.most, n, fail)
		}
	}
}

// P3.2: all numbers near a power of two, be they above all of Go's, are held against most as they are.
func TestReadAsBig(t *testing.T) {
	for i := range 140 {
		for d := int64(-12); d <= 12; d++ {
			n := new(big.Int).Add(new(big.Int).Lsh(big.NewInt(1), uint(i)), big.NewInt(d))
			if n.Sign() < 0 {
				continue
			}
			want, fail := uint64(0), api.ErrRange
			if n.IsUint64() {
				want, fail = n.Uint64(), api.OK
			}
			if got, is := decimal.Read(n.String(), math.MaxUint64); got != want || is != fail {
				t.Errorf("Read(%s): %d, %v", n, got, is)
			}
		}
	}
}

// P3.3: digits ahead of anything else.
func TestPrefix(t *testing.T) {
	for s, want := range map[string]int{
		"": 0, "a": 0, "12a3": 2, "007": 3, "0": 1, "9": 1, "1 2": 1, " 12": 0, "-1": 0, "12\xff3": 2, "\xff": 0, "12é": 2, "1١2": 1, "/": 0, "5:": 1,
		"1234567890":                    10,
		strings.Repeat("7", 100):        100,
		strings.Repeat("7", 9) + "\x00": 9,
	} {
		if got := decimal.Prefix(s); got != want {
			t.Errorf("Prefix(%q): %d", s, got)
		}
	}
}
