// Package chars says which bytes may stand where, takes and lays references, and tells places in a text.
package chars

import (
	"strings"

	"pomace/api"
)

// mostDigits is how many digits a reference by number has at most.
const mostDigits = 8

// IsBlank tells whether c is a space, a tab, a line end or a return.
func IsBlank(c byte) bool {
	return c == ' ' || c == '\t' || c == '\n' || c == '\r'
}

// IsDigit tells whether c is one of 0 to 9.
func IsDigit(c byte) bool {
	return c >= '0' && c <= '9'
}

// IsFirst tells whether a name may begin with c.
func IsFirst(c byte) bool {
	return c >= 'A' && c <= 'Z' || c >= 'a' && c <= 'z' || c == '_'
}

// IsName tells whether c may stand in a name.
func IsName(c byte) bool {
	return IsFirst(c) || IsDigit(c) || c == '.' || c == '-' || c == ':'
}

// IsText tells whether c may stand in a text.
func IsText(c byte) bool {
	return c >= ' ' || IsBlank(c)
}

// Name tells how many bytes a name at the front of s has.
func Name(s string) int {
	if s == "" || !IsFirst(s[0]) {
		return 0
	}
	n := 1
	for n < len(s) && IsName(s[n]) {
		n++
	}
	return n
}

// Trim gives s without blanks at both ends.
func Trim(s string) string {
	return strings.TrimFunc(s, func(r rune) bool {
		return r < 128 && IsBlank(byte(r))
	})
}

// Lower gives s with A to Z as a to z.
func Lower(s string) string {
	low := []byte(s)
	for i, c := range low {
		if c >= 'A' && c <= 'Z' {
			low[i] = c + ('a' - 'A')
		}
	}
	return string(low)
}

// Letter gives the bytes of the letter n, if there is one.
func Letter(n int) (string, bool) {
	switch {
	case n == '\t' || n == '\n' || n == '\r':
	case n < ' ' || n > 0x10FFFF:
		return "", false
	case n >= 0xD800 && n <= 0xDFFF:
		return "", false
	}
	return string(rune(n)), true
}

// named gives the letter of a reference by name.
func named(word string) (rune, bool) {
	switch word {
	case "lt":
		return '<', true
	case "gt":
		return '>', true
	case "amp":
		return '&', true
	case "quot":
		return '"', true
	case "apos":
		return '\'', true
	}
	return 0, false
}

// beginsNamed tells whether s is the beginning of a reference by name.
func beginsNamed(s string) bool {
	for _, whole := range [...]string{"&lt;", "&gt;", "&amp;", "&quot;", "&apos;"} {
		if strings.HasPrefix(whole, s) {
			return true
		}
	}
	return false
}

// Ref takes the reference at the front of s.
func Ref(s string) (text string, size int, e api.Errno) {
	if strings.HasPrefix(s, "&#x") {
		return numbered(s, len("&#x"), 16)
	}
	if strings.HasPrefix(s, "&#") {
		return numbered(s, len("&#"), 10)
	}
	if end := strings.IndexByte(s, ';'); end > 0 && s[0] == '&' {
		if r, ok := named(s[1:end]); ok {
			return string(r), end + 1, api.OK
		}
	}
	if beginsNamed(s) {
		return "", 0, api.ErrEnd
	}
	return "", 0, api.ErrRef
}

// numbered takes a reference by number whose digits begin at from.
func numbered(s string, from, base int) (string, int, api.Errno) {
	n, i := 0, from
	for i < len(s) && i-from < mostDigits {
		d, ok := digit(s[i], base)
		if !ok {
			break
		}
		n = n*base + d
		i++
	}
	if i == len(s) {
		return "", 0, api.ErrEnd
	}
	if i == from || s[i] != ';' {
		return "", 0, api.ErrRef
	}
	letter, ok := Letter(n)
	if !ok {
		return "", 0, api.ErrRef
	}
	return letter, i + 1, api.OK
}

// digit gives what the digit c stands for in a number of that base.
func digit(c byte, base int) (int, bool) {
	switch {
	case IsDigit(c):
		return int(c - '0'), true
	case base != 16:
		return 0, false
	case c >= 'a' && c <= 'f':
		return int(c-'a') + 10, true
	case c >= 'A' && c <= 'F':
		return int(c-'A') + 10, true
	}
	return 0, false
}

// escaped gives the reference for c where it can't stand for itself.
func escaped(c byte, attr bool) (string, bool) {
	switch c {
	case '&':
		return "&amp;", true
	case '<':
		return "&lt;", true
	case '>':
		return "&gt;", true
	case '\r':
		return "&#13;", true
	case '"':
		return "&quot;", attr
	case '\t':
		return "&#9;", attr
	case '\n':
		return "&#10;", attr
	}
	return "", false
}

// Escape gives s as it stands in a text, or in an attribute's value.
func Escape(s string, attr bool) string {
	var b strings.Builder
	for i := range len(s) {
		if ref, ok := escaped(s[i], attr); ok {
			b.WriteString(ref)
		} else {
			b.WriteByte(s[i])
		}
	}
	return b.String()
}

// At gives the place in the text with off bytes ahead of it.
func At(text string, off int) api.Place {
	off = min(max(off, 0), len(text))
	ahead := text[:off]
	return api.Place{
		Off:  off,
		Line: 1 + strings.Count(ahead, "\n"),
		Col:  off - strings.LastIndexByte(ahead, '\n'),
	}
}
