// Package hexes is layer 5: see shared/doc/05-hexes.md.
package hexes

import (
	"strings"

	"crawlway/api"
)

const digits = "0123456789abcdef"

// Encode is the text of bytes.
func Encode(b []byte) string {
	text := make([]byte, 0, 2*len(b))
	for _, c := range b {
		text = append(text, digits[c>>4], digits[c&15])
	}
	return string(text)
}

// Decode are the bytes of a text.
func Decode(s string) ([]byte, api.Errno) {
	if len(s)%2 != 0 {
		return nil, api.ErrForm
	}
	b := make([]byte, len(s)/2)
	for i := range b {
		high := strings.IndexByte(digits, s[2*i])
		low := strings.IndexByte(digits, s[2*i+1])
		if high < 0 || low < 0 {
			return nil, api.ErrForm
		}
		b[i] = byte(high<<4 | low)
	}
	return b, api.OK
}

// Group is a number's text.
func Group(n uint16) string {
	shift := 12
	for shift > 0 && n>>shift == 0 {
		shift -= 4
	}
	text := make([]byte, 0, 4)
	for ; shift >= 0; shift -= 4 {
		text = append(text, digits[n>>shift&15])
	}
	return string(text)
}

// ReadGroup is a text's number.
func ReadGroup(s string) (uint16, api.Errno) {
	if len(s) < 1 || len(s) > 4 {
		return 0, api.ErrForm
	}
	n := uint16(0)
	for i := range len(s) {
		d := strings.IndexByte(digits, small(s[i]))
		if d < 0 {
			return 0, api.ErrForm
		}
		n = n<<4 | uint16(d)
	}
	return n, api.OK
}

func small(c byte) byte {
	if c >= 'A' && c <= 'F' {
		return c - 'A' + 'a'
	}
	return c
}
