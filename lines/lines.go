// Package lines is layer 6: see shared/doc/06-lines.md.
package lines

import (
	"strings"
)

const end = '\n'

// Join is the text of lines.
func Join(l ...string) string {
	var text strings.Builder
	for _, line := range l {
		text.WriteString(line)
		text.WriteByte(end)
	}
	return text.String()
}

// Split are the lines whose text it is.
func Split(s string) ([]string, bool) {
	if s != "" && s[len(s)-1] != end {
		return nil, false
	}
	return Loose(s), true
}

// Loose are a text's lines.
func Loose(s string) []string {
	if s == "" {
		return nil
	}
	if s[len(s)-1] == end {
		s = s[:len(s)-1]
	}
	return Parts(s, end)
}

// Trim is a text without blanks at its ends.
func Trim(s string) string { return strings.Trim(s, " \t\r") }

// Cut is what stands ahead of a byte, and behind it.
func Cut(s string, sep byte) (string, string, bool) {
	at := strings.IndexByte(s, sep)
	if at < 0 {
		return s, "", false
	}
	return s[:at], s[at+1:], true
}

// Parts is what stands between bytes.
func Parts(s string, sep byte) []string {
	var parts []string
	part, rest, more := Cut(s, sep)
	for more {
		parts = append(parts, part)
		part, rest, more = Cut(rest, sep)
	}
	return append(parts, part)
}

// Fold is a text with small letters.
func Fold(s string) string {
	// Byte by byte: what is no letter A to Z stays as it is, be it no good UTF-8.
	b := []byte(s)
	for i, c := range b {
		if c >= 'A' && c <= 'Z' {
			b[i] = c - 'A' + 'a'
		}
	}
	return string(b)
}
