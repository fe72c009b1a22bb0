package show

import (
	"strconv"
	"strings"
	"unicode/utf8"

	"wattle/api"
)

// The bytes whose escape is one letter behind a \, and these letters, each at its byte's place.
const (
	lettered = "\\'\n\t\r"
	letters  = `\'ntr`
)

// hexes is the hexadecimal digits.
const hexes = "0123456789abcdef"

// Quote is a text in quotes.
func Quote(s string) string { return string(putQuoted(nil, s)) }

// putQuoted writes a text in quotes behind b.
func putQuoted(b []byte, s string) []byte {
	b = append(b, '\'')
	for at, r := range s {
		if bare(r, s[at:]) {
			b = utf8.AppendRune(b, r)
		} else {
			// Each sign that does not stand bare is one byte.
			b = putEscape(b, s[at])
		}
	}
	return append(b, '\'')
}

// bare tells whether a sign, with which rest begins, stands in quotes as it is.
func bare(r rune, rest string) bool {
	switch {
	case r < 0x20, r == 0x7F, r == '\\', r == '\'':
		return false
	case r == utf8.RuneError:
		// A range tells a byte that is part of no sign as this sign, too.
		return strings.HasPrefix(rest, string(utf8.RuneError))
	}
	return true
}

// putEscape writes a byte's escape behind b.
func putEscape(b []byte, c byte) []byte {
	if i := strings.IndexByte(lettered, c); i >= 0 {
		return append(b, '\\', letters[i])
	}
	return append(b, '\\', 'x', hexes[c>>4], hexes[c&15])
}

// Unquote is the text that stands in quotes.
func Unquote(s string) (string, api.Errno) {
	if len(s) < 2 || s[0] != '\'' || s[len(s)-1] != '\'' {
		return "", api.ErrSyntax
	}
	s = s[1 : len(s)-1]
	var out []byte
	next := 0
	for at, r := range s {
		switch {
		case at < next: // part of the escape ahead
		case bare(r, s[at:]):
			out = utf8.AppendRune(out, r)
		default:
			c, size := escape(s[at:])
			if size == 0 {
				return "", api.ErrSyntax
			}
			out = append(out, c)
			next = at + size
		}
	}
	return string(out), api.OK
}

// escape is the byte for which the escape at the front of s stands, and how many bytes that escape has: none, if there is none.
func escape(s string) (byte, int) {
	if len(s) < 2 || s[0] != '\\' {
		return 0, 0
	}
	if i := strings.IndexByte(letters, s[1]); i >= 0 {
		return lettered[i], 2
	}
	if len(s) < 4 || s[1] != 'x' {
		return 0, 0
	}
	c, err := strconv.ParseUint(s[2:4], 16, 8)
	if err != nil {
		return 0, 0
	}
	return byte(c), 4
}
