package chars

import (
	"strconv"
	"strings"
	"testing"
	"unicode/utf8"

	"pomace/api"
)

// P1.1: every byte is of just the classes that are named.
func TestBytes(t *testing.T) {
	const upper = "ABCDEFGHIJKLMNOPQRSTUVWXYZ"
	first := upper + strings.ToLower(upper) + "_"
	for i := range 256 {
		c := byte(i)
		in := func(set string) bool { return strings.IndexByte(set, c) >= 0 }
		if IsBlank(c) != in(" \t\n\r") {
			t.Error("IsBlank", i)
		}
		if IsDigit(c) != in("0123456789") {
			t.Error("IsDigit", i)
		}
		if IsFirst(c) != in(first) {
			t.Error("IsFirst", i)
		}
		if IsName(c) != in(first+"0123456789.-:") {
			t.Error("IsName", i)
		}
		if IsText(c) != (i >= 32 || in("\t\n\r")) {
			t.Error("IsText", i)
		}
	}
}

// P1.1: names, trimming, small letters.
func TestWords(t *testing.T) {
	for s, n := range map[string]int{
		"": 0, "1a": 0, "-": 0, ".a": 0, ":a": 0, "a": 1, "_": 1, "a-b.c:d_9 x": 9, "ab<": 2, "a\x80": 1, " a": 0,
	} {
		if Name(s) != n {
			t.Errorf("Name(%q) = %d", s, Name(s))
		}
	}
	for s, want := range map[string]string{
		"": "", " \t\r\n": "", " a b\n": "a b", "\va\f": "\va\f", "\u00a0x\u0085": "\u00a0x\u0085", "\x85 ": "\x85", "x": "x",
	} {
		if Trim(s) != want {
			t.Errorf("Trim(%q) = %q", s, Trim(s))
		}
	}
	if got := Lower("AZaz09[@\xc3\x84Ä"); got != "azaz09[@\xc3\x84Ä" {
		t.Errorf("Lower: %q", got)
	}
}

// P1.2: just the letters that there are, in UTF-8.
func TestLetter(t *testing.T) {
	for n := -5; n < 0x110005; n++ {
		want := n == 9 || n == 10 || n == 13 || n >= 32 && n <= 1114111 && (n < 55296 || n > 57343)
		s, ok := Letter(n)
		if ok != want || !ok && s != "" {
			t.Fatal(n, s, ok)
		}
		if !ok {
			continue
		}
		size := 4
		switch {
		case n <= 127:
			size = 1
		case n <= 2047:
			size = 2
		case n <= 65535:
			size = 3
		}
		if r, l := utf8.DecodeRuneInString(s); int(r) != n || l != size || len(s) != size {
			t.Fatal(n, s)
		}
	}
	for _, n := range []int{1 << 32, 1<<32 + 65, -1 << 63, 1<<63 - 1, -(1 << 32) + 65} {
		if s, ok := Letter(n); ok || s != "" {
			t.Error(n, s)
		}
	}
}

// P1.3: references, and what is none.
func TestRef(t *testing.T) {
	type want struct {
		text string
		size int
		e    api.Errno
	}
	for s, w := range map[string]want{
		"&lt;x":         {"<", 4, api.OK},
		"&gt;":          {">", 4, api.OK},
		"&amp;amp;":     {"&", 5, api.OK},
		"&quot;":        {"\"", 6, api.OK},
		"&apos;;":       {"'", 6, api.OK},
		"&#65;":         {"A", 5, api.OK},
		"&#x41;b":       {"A", 6, api.OK},
		"&#xaF;":        {"\u00af", 6, api.OK},
		"&#00000065;":   {"A", 11, api.OK},
		"&#x0010FFFF;":  {"\U0010ffff", 12, api.OK},
		"&#9;":          {"\t", 4, api.OK},
		"":              {"", 0, api.ErrEnd},
		"&":             {"", 0, api.ErrEnd},
		"&lt":           {"", 0, api.ErrEnd},
		"&quo":          {"", 0, api.ErrEnd},
		"&a":            {"", 0, api.ErrEnd},
		"&#":            {"", 0, api.ErrEnd},
		"&#x":           {"", 0, api.ErrEnd},
		"&#12345678":    {"", 0, api.ErrEnd},
		"&#xabcdef01":   {"", 0, api.ErrEnd},
		"&#0":           {"", 0, api.ErrEnd},
		"&#xD800":       {"", 0, api.ErrEnd},
		"&#123456789":   {"", 0, api.ErrRef},
		"&#xabcdef012":  {"", 0, api.ErrRef},
		"&#000000065;":  {"", 0, api.ErrRef},
		"&#x000000041;": {"", 0, api.ErrRef},
		"&#;":           {"", 0, api.ErrRef},
		"&#x;":          {"", 0, api.ErrRef},
		"&#X41;":        {"", 0, api.ErrRef},
		"&#0;":          {"", 0, api.ErrRef},
		"&#8;":          {"", 0, api.ErrRef},
		"&#xD800;":      {"", 0, api.ErrRef},
		"&#x110000;":    {"", 0, api.ErrRef},
		"&#a;":          {"", 0, api.ErrRef},
		"&#6 5;":        {"", 0, api.ErrRef},
		"&#65x;":        {"", 0, api.ErrRef},
		"&#65 ;":        {"", 0, api.ErrRef},
		"&#x41g":        {"", 0, api.ErrRef},
		"&#-1;":         {"", 0, api.ErrRef},
		"&lT;":          {"", 0, api.ErrRef},
		"&lt ;":         {"", 0, api.ErrRef},
		"&;":            {"", 0, api.ErrRef},
		"&x":            {"", 0, api.ErrRef},
		"x&lt;":         {"", 0, api.ErrRef},
		"lt;":           {"", 0, api.ErrRef},
		"xlt;":          {"", 0, api.ErrRef},
		";":             {"", 0, api.ErrRef},
		"&nbsp;":        {"", 0, api.ErrRef},
	} {
		if text, size, e := Ref(s); (want{text, size, e}) != w {
			t.Errorf("Ref(%q) = %q %d %d", s, text, size, e)
		}
	}
}

// P1.3: each number, in both ways of writing it.
func TestRefNumbers(t *testing.T) {
	for n := 0; n < 0x110100; n += 7 {
		letter, ok := Letter(n)
		for _, s := range []string{"&#" + strconv.Itoa(n) + ";", "&#x" + strconv.FormatInt(int64(n), 16) + ";"} {
			text, size, e := Ref(s)
			if ok && (text != letter || size != len(s) || e != api.OK) || !ok && (text != "" || size != 0 || e != api.ErrRef) {
				t.Fatal(s, text, size, e)
			}
		}
	}
}

// P1.4: what is escaped, and what stays.
func TestEscape(t *testing.T) {
	const s = "&<>\"'\t\n\r ä\x00a"
	if got := Escape(s, false); got != "&amp;&lt;&gt;\"'\t\n&#13; ä\x00a" {
		t.Errorf("%q", got)
	}
	if got := Escape(s, true); got != "&amp;&lt;&gt;&quot;'&#9;&#10;&#13; ä\x00a" {
		t.Errorf("%q", got)
	}
	if Escape("", true) != "" {
		t.Error("empty")
	}
}

// P1.5: places, and offsets that are too low or too high.
func TestAt(t *testing.T) {
	const text = "a\nbc\n\nd"
	var want []api.Place
	for off, at := range [][2]int{{1, 1}, {1, 2}, {2, 1}, {2, 2}, {2, 3}, {3, 1}, {4, 1}, {4, 2}} {
		want = append(want, api.Place{Off: off, Line: at[0], Col: at[1]})
	}
	for off, w := range want {
		if At(text, off) != w {
			t.Error(off, At(text, off))
		}
	}
	if At(text, -1) != want[0] || At(text, -1<<63) != want[0] || At(text, 8) != want[7] || At(text, 1<<62) != want[7] {
		t.Error("beyond the ends")
	}
	if At("", 3) != (api.Place{Off: 0, Line: 1, Col: 1}) {
		t.Error("empty")
	}
}

// readOn reads s from reference to reference.
func readOn(t *testing.T, s string) string {
	var b strings.Builder
	for s != "" {
		if s[0] != '&' {
			b.WriteByte(s[0])
			s = s[1:]
			continue
		}
		text, size, e := Ref(s)
		if e != api.OK {
			t.Fatal(s, e)
		}
		b.WriteString(text)
		s = s[size:]
	}
	return b.String()
}

// P1.6: what is escaped is read as what it was.
func TestEscapeBack(t *testing.T) {
	for i := range 256 {
		for j := range 256 {
			s := string([]byte{byte(i), byte(j), '&'})
			for _, attr := range []bool{false, true} {
				e := Escape(s, attr)
				if strings.ContainsAny(e, "<>") || readOn(t, e) != s {
					t.Fatalf("%q %q", s, e)
				}
			}
		}
	}
}

// P1.7: no letter's bytes begin another one's.
func TestLettersApart(t *testing.T) {
	seen := map[string]int{}
	for n := range 0x110000 {
		if s, ok := Letter(n); ok {
			seen[s] = n
		}
	}
	for s, n := range seen {
		for l := 1; l < len(s); l++ {
			if m, ok := seen[s[:l]]; ok {
				t.Fatal(n, m)
			}
		}
	}
	if len(seen) != 1114112-2048-32+3 {
		t.Error(len(seen))
	}
}

// P1.8: places rise.
func TestPlacesRise(t *testing.T) {
	const text = "\n\na\r\nbcd\n \n"
	for off := 1; off <= len(text); off++ {
		a, b := At(text, off-1), At(text, off)
		if a.Line > b.Line || a.Line == b.Line && a.Col >= b.Col || a.Off >= b.Off {
			t.Error(a, b)
		}
	}
}
