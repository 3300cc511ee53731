// Package wording is what the layers 50 and 51 share: lines of words, each of which tells a field.
package wording

import (
	"strings"

	"crawlway/api"
	"crawlway/decimal"
	"crawlway/hexes"
	"crawlway/hostport"
	"crawlway/keys"
	"crawlway/lines"
)

const (
	none    = "-"
	between = ' '
)

// Word is a word that tells a field.
type Word struct {
	// Take takes the field's value away, and tells whether it was right.
	Take func() bool
	// Text is the word of the field's value.
	Text func() string
	// Read lets the field have the value of a word.
	Read func(s string) api.Errno
}

// Of is the word of a field, by what is right there, and how it is written, and read.
func Of[T any](field *T, right func(T) bool, text func(T) string, read func(s string) (T, api.Errno)) Word {
	return Word{
		Take: func() bool {
			var zero T
			had := *field
			*field = zero
			return right(had)
		},
		Text: func() string { return text(*field) },
		Read: func(s string) api.Errno {
			v, fail := read(s)
			*field = v
			return fail
		},
	}
}

// Bytes is the word of bytes.
func Bytes(field *[]byte) Word { return Of(field, every[[]byte], bytesText, readBytes) }

// Key is the word of a key.
func Key(field *api.Key) Word { return Of(field, every[api.Key], keys.Hex, keys.ParseHex) }

// Endpoint is the word of an endpoint, which must be a right one.
func Endpoint(field *api.Endpoint) Word {
	return Of(field, hostport.Right, hostport.Text, hostport.Parse)
}

// Number is the word of a number of at most so much, which T must have room for.
func Number[T uint32 | uint64](field *T, most uint64) Word {
	text := func(n T) string { return decimal.Text(uint64(n)) }
	read := func(s string) (T, api.Errno) {
		n, fail := decimal.Read(s, most)
		return T(n), fail
	}
	return Of(field, every[T], text, read)
}

// Take takes all fields' values away, and tells whether all were right.
func Take(words []Word) bool {
	right := true
	for _, w := range words {
		right = w.Take() && right
	}
	return right
}

// Line is a line of a first word, and of words.
func Line(front string, words []Word) string {
	l := []string{front}
	for _, w := range words {
		l = append(l, w.Text())
	}
	return strings.Join(l, string(between))
}

// Part is a line's first word, and the others.
func Part(line string) (string, []string) {
	l := lines.Parts(line, between)
	return l[0], l[1:]
}

// Read lets fields have the values of just so many words.
func Read(said []string, words []Word) api.Errno {
	if len(said) != len(words) {
		return api.ErrForm
	}
	for i, w := range words {
		if fail := w.Read(said[i]); fail != api.OK {
			return fail
		}
	}
	return api.OK
}

// Join is the text of each one's line.
func Join[T any](l []T, line func(T) (string, api.Errno)) (string, api.Errno) {
	var all []string
	for _, x := range l {
		s, fail := line(x)
		if fail != api.OK {
			return "", fail
		}
		all = append(all, s)
	}
	return lines.Join(all...), api.OK
}

// Split is what each line of a text tells; of the first one that can't be parsed its number, and why.
func Split[T any](s string, parse func(line string) (T, api.Errno)) ([]T, int, api.Errno) {
	l, is := lines.Split(s)
	if !is {
		return nil, 0, api.ErrForm
	}
	var all []T
	for i, line := range l {
		x, fail := parse(line)
		if fail != api.OK {
			return nil, i + 1, fail
		}
		all = append(all, x)
	}
	return all, 0, api.OK
}

// every value is right.
func every[T any](T) bool { return true }

func bytesText(b []byte) string {
	if len(b) == 0 {
		return none
	}
	return hexes.Encode(b)
}

func readBytes(s string) ([]byte, api.Errno) {
	switch s {
	case none:
		return nil, api.OK
	case "":
		return nil, api.ErrForm
	}
	return hexes.Decode(s)
}
