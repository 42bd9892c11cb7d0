// Package runes: signs, and names made of them.
package runes

import (
	"strings"

	"concordat/api"
)

// replacement is what a range over a text tells where no rune stands; it is
// also a rune of its own, so that its bytes must be looked at.
const (
	replacement      rune = 0xfffd
	replacementBytes      = "\xef\xbf\xbd"
)

// stands tells whether r, which a range over s told at a place, is in s: a
// range reads shortest forms alone and tells all else as a replacement.
func stands(s string, at int, r rune) bool {
	return r != replacement || strings.HasPrefix(s[at:], replacementBytes)
}

// Next is the rune that stands at a place.
func Next(s string, at int) (rune, int, bool) {
	if at < 0 || at >= len(s) {
		return 0, 0, false
	}
	for _, r := range s[at:] { // left at the first one, whatever it is
		if !stands(s, at, r) {
			break
		}
		return r, len(Put(r)), true
	}
	return 0, 0, false
}

// Valid tells whether a text is runes alone.
func Valid(s string) bool {
	for at, r := range s {
		if !stands(s, at, r) {
			return false
		}
	}
	return true
}

// Count is how many runes there are.
func Count(s string) int {
	n := 0
	for at, r := range s {
		if !stands(s, at, r) {
			return 0
		}
		n++
	}
	return n
}

// Letter tells whether a rune is a letter.
func Letter(r rune) bool {
	switch {
	case 'a' <= r && r <= 'z', 'A' <= r && r <= 'Z', r == '_':
		return true
	case 0xc0 <= r && r <= 0x24f:
		return r != 0xd7 && r != 0xf7
	case 0x391 <= r && r <= 0x3c9:
		return r != 0x3a2
	}
	return false
}

// Digit tells whether a rune is a digit.
func Digit(r rune) bool { return '0' <= r && r <= '9' }

// Key tells whether a word is one of the language's.
func Key(s string) bool {
	switch s {
	case "schema", "message", "enum", "call", "returns", "reserved",
		"optional", "repeated", "int32", "int64", "bool", "text", "bytes":
		return true
	}
	return false
}

// Name tells whether a text is a name.
func Name(s string) bool {
	n := Count(s) // 0 also of what is not Valid
	if n < 1 || n > api.MaxName || Key(s) {
		return false
	}
	for at, r := range s {
		if !Letter(r) && (at == 0 || !Digit(r)) {
			return false
		}
	}
	return true
}

// Put are a rune's bytes.
func Put(r rune) string {
	if r < 0 || r > 0x10ffff || 0xd800 <= r && r <= 0xdfff {
		return ""
	}
	return string(r)
}
