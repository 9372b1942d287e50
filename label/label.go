// Package label validates and encodes the labels of volumes (layer 1: see ../shared/doc/01-label.md).
package label

import (
	"strings"
	"unicode/utf8"

	"casemate/api"
)

// Check tells whether s is a valid label: OK, ErrText or ErrLen, in that order.
func Check(s string) api.Errno {
	if !permittedText(s) {
		return api.ErrText
	}
	if Runes(s) > api.MaxRunes {
		return api.ErrLen
	}
	return api.OK
}

// Runes returns the number of runes of s; a byte that is not part of valid UTF-8 counts as one.
func Runes(s string) int {
	n := 0
	for range s {
		n++
	}
	return n
}

// Cut returns the first n runes of s, or all of s if it has no more.
func Cut(s string, n int) string {
	if n < 0 {
		return ""
	}
	seen := 0
	for at := range s {
		if seen == n {
			// A piece of s would share its memory.
			return strings.Clone(s[:at])
		}
		seen++
	}
	return strings.Clone(s)
}

// Bytes returns the encoding of the label s: its length in one byte, then its bytes.
func Bytes(s string) ([]byte, api.Errno) {
	if e := Check(s); e != api.OK {
		return nil, e
	}
	// MaxRunes runes have at most MaxRunes * utf8.UTFMax bytes, so that the length fits.
	b := make([]byte, 0, 1+len(s))
	b = append(b, byte(len(s)))
	return append(b, s...), api.OK
}

// Read returns the label whose encoding b begins with, and how many bytes that encoding has.
func Read(b []byte) (s string, used int, e api.Errno) {
	if len(b) == 0 {
		return "", 0, api.ErrBytes
	}
	end := 1 + int(b[0])
	if len(b) < end {
		return "", 0, api.ErrBytes
	}
	s = string(b[1:end])
	if Check(s) != api.OK {
		return "", 0, api.ErrBytes
	}
	return s, end, api.OK
}

func permittedText(s string) bool {
	if !utf8.ValidString(s) {
		return false
	}
	for _, r := range s {
		if !permitted(r) {
			return false
		}
	}
	return true
}

// permitted: no control character of ASCII; those from U+0080 on are permitted.
func permitted(r rune) bool {
	return r >= 0x20 && r != 0x7f
}
