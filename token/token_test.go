package token

import (
	"math/rand"
	"slices"
	"strings"
	"testing"

	"pomace/api"
	"pomace/chars"
)

func same(a, b api.Token) bool {
	return a.Kind == b.Kind && a.Name == b.Name && a.Text == b.Text && slices.Equal(a.Attrs, b.Attrs)
}

func attrs(l ...string) []api.Attr {
	var out []api.Attr
	for i := 0; i < len(l); i += 2 {
		out = append(out, api.Attr{Name: l[i], Value: l[i+1]})
	}
	return out
}

// P2.1: each kind of token, with its place.
func TestKinds(t *testing.T) {
	type piece struct {
		tok api.Token
		off int
	}
	for text, want := range map[string][]piece{
		"":                          nil,
		"<!-- <&> --><a/>":          {{api.Token{Kind: api.TokNote, Text: " <&> "}, 0}, {api.Token{Kind: api.TokEmpty, Name: "a"}, 12}},
		"<!---->":                   {{api.Token{Kind: api.TokNote}, 0}},
		"<!-->-->":                  {{api.Token{Kind: api.TokNote, Text: ">"}, 0}},
		"<!-- - -- --->":            {{api.Token{Kind: api.TokNote, Text: " - -- -"}, 0}},
		"<![CDATA[<&]]]]>x":         {{api.Token{Kind: api.TokText, Text: "<&]]"}, 0}, {api.Token{Kind: api.TokText, Text: "x"}, 16}},
		"<![CDATA[]]>":              {{api.Token{Kind: api.TokText}, 0}},
		"<?xml?>":                   {{api.Token{Kind: api.TokHead}, 0}},
		"<?xml??>":                  {{api.Token{Kind: api.TokHead, Text: "?"}, 0}},
		"<?xml\nv='1'?>":            {{api.Token{Kind: api.TokHead, Text: "\nv='1'"}, 0}},
		"<?xml <!-- ?>":             {{api.Token{Kind: api.TokHead, Text: " <!-- "}, 0}},
		"</a.b>":                    {{api.Token{Kind: api.TokClose, Name: "a.b"}, 0}},
		"</a \t\r\n>":               {{api.Token{Kind: api.TokClose, Name: "a"}, 0}},
		"<a>":                       {{api.Token{Kind: api.TokOpen, Name: "a"}, 0}},
		"<a />":                     {{api.Token{Kind: api.TokEmpty, Name: "a"}, 0}},
		"<a b='1'/>x&lt;":           {{api.Token{Kind: api.TokEmpty, Name: "a", Attrs: attrs("b", "1")}, 0}, {api.Token{Kind: api.TokText, Text: "x<"}, 10}},
		"<a b = \"'>\"\nc=''>":      {{api.Token{Kind: api.TokOpen, Name: "a", Attrs: attrs("b", "'>", "c", "")}, 0}},
		"<a b='\"&quot;\t\n&#10;'>": {{api.Token{Kind: api.TokOpen, Name: "a", Attrs: attrs("b", "\"\"\t\n\n")}, 0}},
		"x]]>y\x7f\xff&#x41;":       {{api.Token{Kind: api.TokText, Text: "x]]>y\x7f\xffA"}, 0}},
		" <b>":                      {{api.Token{Kind: api.TokText, Text: " "}, 0}, {api.Token{Kind: api.TokOpen, Name: "b"}, 1}},
	} {
		l, e, at := All(text)
		if e != api.OK || at != (api.Place{}) || len(l) != len(want) {
			t.Errorf("%q: %v %d %v", text, l, e, at)
			continue
		}
		for i, w := range want {
			if !same(l[i], w.tok) || l[i].At != chars.At(text, w.off) {
				t.Errorf("%q: %v, not %v", text, l[i], w)
			}
		}
	}
}

// P2.1: the longest text that may be, and one that is too long.
func TestLength(t *testing.T) {
	if l, e, _ := All(strings.Repeat("x", api.MaxText)); e != api.OK || len(l) != 1 {
		t.Error(e)
	}
	l, e, at := All("\x00" + strings.Repeat("\n", api.MaxText))
	if l != nil || e != api.ErrBig || at != (api.Place{Off: 0, Line: 1, Col: 1}) {
		t.Error(e, at)
	}
}

// P2.2: each error, at its place.
func TestErrors(t *testing.T) {
	for _, w := range []struct {
		text string
		e    api.Errno
		off  int
	}{
		{"<", api.ErrEnd, 1}, {"<a", api.ErrEnd, 2}, {"<a ", api.ErrEnd, 3}, {"<a/", api.ErrEnd, 3}, {"<a b", api.ErrEnd, 4},
		{"<a b ", api.ErrEnd, 5}, {"<a b=", api.ErrEnd, 5}, {"<a b='", api.ErrEnd, 6}, {"<a b='x'", api.ErrEnd, 8},
		{"</", api.ErrEnd, 2}, {"</a", api.ErrEnd, 3}, {"</a ", api.ErrEnd, 4}, {"<!--", api.ErrEnd, 4}, {"<!-- --", api.ErrEnd, 7},
		{"<!-->", api.ErrEnd, 5}, {"<![CDATA[]]", api.ErrEnd, 11}, {"<?xml ?", api.ErrEnd, 7}, {"<?xml?", api.ErrEnd, 6},
		{"< a>", api.ErrName, 1}, {"<!-", api.ErrName, 1}, {"<!", api.ErrName, 1}, {"<![CDATA", api.ErrName, 1}, {"<?xml", api.ErrName, 1},
		{"<?xmlx?>", api.ErrName, 1}, {" <?xml ?>", api.ErrName, 2}, {"<?pi?>", api.ErrName, 1}, {"</ a>", api.ErrName, 2}, {"<//a>", api.ErrName, 2},
		{"<1>", api.ErrName, 1}, {"<>", api.ErrName, 1}, {"<\x00", api.ErrName, 1}, {"</>", api.ErrName, 2},
		{"<a b=1>", api.ErrByte, 5}, {"<a 1='1'>", api.ErrByte, 3}, {"<a b>", api.ErrByte, 4}, {"<a b/>", api.ErrByte, 4}, {"<a b c='1'>", api.ErrByte, 5},
		{"<a b='1'c='2'>", api.ErrByte, 8}, {"<a b='<'>", api.ErrByte, 6}, {"<a b='\x01'>", api.ErrByte, 6}, {"<a / >", api.ErrByte, 4}, {"<a\"", api.ErrByte, 2},
		{"<a =''>", api.ErrByte, 3}, {"<a<", api.ErrByte, 2}, {"</a b>", api.ErrByte, 4}, {"</a/>", api.ErrByte, 3},
		{"a\x00", api.ErrByte, 1}, {"<!--\x00", api.ErrByte, 4}, {"<!--a\x02-->", api.ErrByte, 5}, {"<![CDATA[\x1f", api.ErrByte, 9}, {"<?xml \x00", api.ErrByte, 6},
		{"<a b='1' b='2'>", api.ErrAttr, 9}, {"<a b='1' c='2' b", api.ErrAttr, 15}, {"<a b='1' b=\x00", api.ErrAttr, 9},
		{"x&lT;", api.ErrRef, 1}, {"x&lt", api.ErrEnd, 1}, {"x&lt<", api.ErrRef, 1}, {"<a b='&x;'>", api.ErrRef, 6}, {"<a b='&lt", api.ErrEnd, 6},
		{"<a b='&#0;", api.ErrRef, 6}, {"<a b='&lt'>", api.ErrRef, 6}, {"a\nb&#5;", api.ErrRef, 3}, {"<a>\n<b\n></b x", api.ErrByte, 12},
	} {
		l, e, at := All(w.text)
		if l != nil || e != w.e || at != chars.At(w.text, w.off) {
			t.Errorf("%q: %v %d %v, not %d at %d", w.text, l, e, at, w.e, w.off)
		}
	}
}

// P2.3: each kind as it is laid, and what is none.
func TestPrint(t *testing.T) {
	got := Print([]api.Token{
		{Kind: api.TokHead, Text: " v"}, {Kind: api.TokNote, Text: "<&"}, {Kind: api.TokOpen, Name: "a", Attrs: attrs("b", "\"<\n'", "c", "")},
		{Kind: api.TokText, Text: "\"<\n&\r"}, {Kind: api.TokEmpty, Name: "e"}, {Kind: api.TokEmpty, Name: "f", Attrs: attrs("g", "1")}, {Kind: api.TokClose, Name: "a", Text: "x"},
		{Kind: 0, Name: "x", Text: "y"}, {Kind: 7, Name: "x"}, {Kind: -1, Text: "x"},
	})
	const want = "<?xml v?><!--<&--><a b=\"&quot;&lt;&#10;'\" c=\"\">\"&lt;\n&amp;&#13;<e/><f g=\"1\"/></a>"
	if got != want {
		t.Errorf("%q", got)
	}
	if Print(nil) != "" {
		t.Error("none")
	}
}

// texts made of pieces, whole and broken ones.
func someTexts(n int) []string {
	pieces := []string{"<", ">", "/>", "</a>", "<a", "<b>", " ", "\n", "b", "='1'", "=\"&lt;\"", "<!--", "-->", "<![CDATA[", "]]>", "x&amp;", "&#9;", "<?xml ?>", "?>", "\x00", "\xe4", "'", "\"", "&", ";", "!", "a='", "-"}
	r := rand.New(rand.NewSource(2))
	var out []string
	for range n {
		var b strings.Builder
		for range r.Intn(9) {
			b.WriteString(pieces[r.Intn(len(pieces))])
		}
		out = append(out, b.String())
	}
	return out
}

// joined: tokens as they are read again: no empty texts, texts side by side as one.
func joined(l []api.Token) []api.Token {
	var out []api.Token
	for _, t := range l {
		last := len(out) - 1
		switch {
		case t.Kind == api.TokText && t.Text == "":
		case t.Kind == api.TokText && last >= 0 && out[last].Kind == api.TokText:
			out[last].Text += t.Text
		default:
			out = append(out, t)
		}
	}
	return out
}

// P2.4, P2.5: what is printed is read as the same; places rise.
func TestBackAndRise(t *testing.T) {
	good := 0
	for _, s := range someTexts(200000) {
		l, e, at := All(s)
		if e != api.OK {
			if l != nil || at.Off < 0 || at.Off > len(s) || at != chars.At(s, at.Off) {
				t.Fatalf("%q %v", s, at)
			}
			continue
		}
		good++
		m, e, _ := All(Print(l))
		if e != api.OK || !slices.EqualFunc(joined(l), m, same) {
			t.Fatalf("%q %v %v", s, l, m)
		}
		for i, x := range l {
			if x.At != chars.At(s, x.At.Off) || i > 0 && x.At.Off <= l[i-1].At.Off || i == 0 && x.At.Off != 0 {
				t.Fatalf("%q %v", s, l)
			}
		}
	}
	if good < 1000 {
		t.Error(good)
	}
}

// P2.6: what stands behind a wrong byte or name changes nothing.
func TestErrorsStay(t *testing.T) {
	for _, s := range someTexts(50000) {
		_, e, at := All(s)
		if e != api.ErrName && e != api.ErrAttr && e != api.ErrByte {
			continue
		}
		end := at.Off + 1
		if e == api.ErrAttr {
			end = at.Off + chars.Name(s[at.Off:])
		} else if e == api.ErrName && (s[at.Off] == '!' || s[at.Off] == '?') {
			continue
		}
		for _, more := range []string{"", " ", "\x00", "='1'/>", "-->]]>?>", "\"'>"} {
			if _, f, to := All(s[:end] + more); f != e || to != at {
				t.Fatalf("%q %d %v; %q %d %v", s, e, at, s[:end]+more, f, to)
			}
		}
	}
}
