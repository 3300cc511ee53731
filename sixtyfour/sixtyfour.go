// Package sixtyfour is layer 4: see shared/doc/04-sixtyfour.md.
package sixtyfour

import (
	"strings"

	"crawlway/api"
)

const signs = "ABCDEFGHIJKLMNOPQRSTUVWXYZabcdefghijklmnopqrstuvwxyz0123456789+/"

// Encode is the text of bytes.
func Encode(b []byte) string {
	text := make([]byte, 0, (len(b)+2)/3*4)
	for ; len(b) > 0; b = b[min(3, len(b)):] {
		text = appendFour(text, b[:min(3, len(b))])
	}
	return string(text)
}

// appendFour writes one to three bytes as four signs, = standing for those that no bit of a byte falls to.
func appendFour(text, b []byte) []byte {
	bits := uint32(0)
	for i, c := range b {
		bits |= uint32(c) << (16 - 8*i)
	}
	for i := range 4 {
		if i > len(b) {
			text = append(text, '=')
		} else {
			text = append(text, signs[bits>>(18-6*i)&63])
		}
	}
	return text
}

// Decode are the bytes of a text.
func Decode(s string) ([]byte, api.Errno) {
	if len(s)%4 != 0 {
		return nil, api.ErrForm
	}
	b := make([]byte, 0, len(s)/4*3)
	for ; len(s) > 4; s = s[4:] {
		var fail api.Errno
		if b, fail = appendThree(b, s[:4]); fail != api.OK {
			return nil, fail
		}
	}
	return appendLast(b, s)
}

// appendLast reads the last four signs, the only ones that may end with =.
func appendLast(b []byte, s string) ([]byte, api.Errno) {
	if strings.HasSuffix(s, "==") {
		return appendThree(b, s[:len(s)-2])
	}
	return appendThree(b, strings.TrimSuffix(s, "="))
}

// appendThree reads what two to four signs say (or none, which say nothing): a byte less than there are signs, and bits behind it that must be 0.
func appendThree(b []byte, s string) ([]byte, api.Errno) {
	bits := uint32(0)
	for i := range len(s) {
		six := strings.IndexByte(signs, s[i])
		if six < 0 {
			return nil, api.ErrForm
		}
		bits |= uint32(six) << (18 - 6*i)
	}
	for range len(s) - 1 {
		b = append(b, byte(bits>>16))
		bits = bits << 8 & 0xffffff
	}
	if bits != 0 {
		return nil, api.ErrZero
	}
	return b, api.OK
}
