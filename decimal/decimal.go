// Package decimal is layer 3: see shared/doc/03-decimal.md.
package decimal

import (
	"math"
	"strconv"

	"crawlway/api"
)

// Text is a number's digits.
func Text(n uint64) string { return strconv.FormatUint(n, 10) }

// Prefix is how many digits a text begins with.
func Prefix(s string) int {
	// A digit is one byte long, so up to the first other rune the places are the numbers of digits.
	for i, r := range s {
		if !digit(r) {
			return i
		}
	}
	return len(s)
}

// Read is a text's number.
func Read(s string, most uint64) (uint64, api.Errno) {
	if !formed(s) {
		return 0, api.ErrForm
	}
	n := uint64(0)
	for _, r := range s {
		d := uint64(r - '0')
		if n > (math.MaxUint64-d)/10 {
			return 0, api.ErrRange
		}
		n = n*10 + d
	}
	if n > most {
		return 0, api.ErrRange
	}
	return n, api.OK
}

func digit(r rune) bool { return r >= '0' && r <= '9' }

// formed tells whether s is some number's text, be it too great for any whole number of Go.
func formed(s string) bool {
	if s == "" || Prefix(s) != len(s) {
		return false
	}
	return s == "0" || s[0] != '0'
}
