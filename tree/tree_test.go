package tree

import (
	"math/rand"
	"strings"
	"testing"

	"pomace/api"
	"pomace/chars"
	"pomace/token"
)

func el(name string, kids ...api.Node) api.Node { return api.Node{Name: name, Kids: kids} }

func tx(s string) api.Node { return api.Node{Text: s} }

func nested(depth int) api.Node {
	n := el("x")
	for range depth - 1 {
		n = el("x", n)
	}
	return n
}

func wide(kids int) api.Node {
	n := el("x")
	for range kids {
		n.Kids = append(n.Kids, el("y"))
	}
	return n
}

// P3.1: what may be a tree, and what may not.
func TestMay(t *testing.T) {
	at := func(l ...api.Attr) api.Node { return api.Node{Name: "a", Attrs: l} }
	for i, n := range []api.Node{
		el("a"), el("a:b.c-1"), el("a", tx("x"), el("b"), tx(" ")), at(api.Attr{Name: "x", Value: "\t\n\xff"}, api.Attr{Name: "y"}),
		nested(api.MaxDepth), wide(api.MaxNodes - 1), el("a", tx("\r")),
	} {
		if !May(n) {
			t.Error("may", i)
		}
	}
	deepText := nested(api.MaxDepth)
	in := &deepText
	for len(in.Kids) > 0 {
		in = &in.Kids[0]
	}
	in.Kids = []api.Node{tx("x")}
	if !May(deepText) {
		t.Error("a text is no element")
	}
	loop := []api.Node{el("a")}
	loop[0].Kids = loop
	for i, n := range []api.Node{
		{}, tx("x"), el("1"), el("a b"), {Name: "a", Text: "x"}, at(api.Attr{Name: "x"}, api.Attr{Name: "x"}), at(api.Attr{}), at(api.Attr{Name: "x", Value: "\x00"}),
		el("a", tx("")), el("a", tx("\x01")), el("a", tx("x"), tx("y")), el("a", api.Node{Text: "x", Kids: []api.Node{el("b")}}), el("a", api.Node{Text: "x", Attrs: []api.Attr{{Name: "x"}}}),
		nested(api.MaxDepth + 1), wide(api.MaxNodes), el("a", el("b", tx(""))), loop[0],
	} {
		if May(n) {
			t.Error("may not", i)
		}
	}
}

// P3.2: trees of texts.
func TestBuild(t *testing.T) {
	for text, want := range map[string]api.Node{
		"<a/>":                       el("a"),
		"<a></a>":                    el("a"),
		"<a>x<!-- n -->y<b/></a>":    el("a", tx("xy"), el("b")),
		"<a>x<![CDATA[]]>y</a>":      el("a", tx("xy")),
		"<a><![CDATA[]]></a>":        el("a"),
		"<a> <b/> </a>":              el("a", tx(" "), el("b"), tx(" ")),
		"<?xml ?> <!--x-->\n<a/> \t": el("a"),
		"&#32;<a/><![CDATA[ ]]>":     el("a"),
		"<a k='1' l='2'>x&amp;<b>y</b><b/></a><!--x-->": {Name: "a", Attrs: []api.Attr{{Name: "k", Value: "1"}, {Name: "l", Value: "2"}}, Kids: []api.Node{tx("x&"), el("b", tx("y")), el("b")}},
	} {
		n, e, at := Build(text)
		if e != api.OK || at != (api.Place{}) || !Same(n, want) || !May(n) {
			t.Errorf("%q: %v %d %v", text, n, e, at)
		}
	}
}

// P3.2: each error, at its place.
func TestBuildErrors(t *testing.T) {
	deep := strings.Repeat("<a>", api.MaxDepth)
	many := "<a>" + strings.Repeat("<b/>", api.MaxNodes-1)
	texts := "<b/>" + strings.Repeat("x<b/>", api.MaxNodes/2-1)
	for _, w := range []struct {
		text string
		e    api.Errno
		off  int
	}{
		{"", api.ErrRoot, 0}, {" ", api.ErrRoot, 1}, {"<!---->\n", api.ErrRoot, 8}, {"x<a/>", api.ErrRoot, 0}, {" x <a/>", api.ErrRoot, 0}, {"<![CDATA[x]]><a/>", api.ErrRoot, 0},
		{"<a/>x", api.ErrRoot, 4}, {"<a></a><b/>", api.ErrRoot, 7}, {"<a/><b>", api.ErrRoot, 4}, {"</a>", api.ErrRoot, 0}, {"<a/></a>", api.ErrRoot, 4},
		{"<a></b>", api.ErrTag, 3}, {"<a><b></a></b>", api.ErrTag, 6}, {"<a>", api.ErrEnd, 3}, {"<a><b/>\n", api.ErrEnd, 8},
		{"<a></b><c", api.ErrEnd, 9}, {"<a/>x<", api.ErrEnd, 6}, {"x\x00", api.ErrByte, 1},
		{deep + "<b/>", api.ErrBig, len(deep)}, {deep + "x<b>", api.ErrBig, len(deep) + 1}, {many + "<c/></a>", api.ErrBig, len(many)}, {many + "x</a>", api.ErrBig, len(many)},
		{"<a>" + texts + "<b/>", api.ErrBig, len(texts) + 3}, {"<a>" + texts + "x</b>", api.ErrBig, len(texts) + 3},
		{many + "<![CDATA[]]></b>", api.ErrTag, len(many) + 12}, {many + "</a><b/>", api.ErrRoot, len(many) + 4},
		{strings.Repeat("x", api.MaxText+1), api.ErrBig, 0},
	} {
		n, e, at := Build(w.text)
		if !Same(n, api.Node{}) || e != w.e || at != chars.At(w.text, w.off) {
			t.Errorf("%.40q: %d %v, not %d at %d", w.text, e, at, w.e, w.off)
		}
	}
	if n, e, _ := Build(deep + "x" + strings.Repeat("</a>", api.MaxDepth)); e != api.OK || Count(n) != api.MaxDepth+1 {
		t.Error("deep", e)
	}
	if n, e, _ := Build("<a>" + strings.Repeat("<b/>", api.MaxNodes-2) + "x<!---->y</a>"); e != api.OK || Count(n) != api.MaxNodes {
		t.Error("many", e)
	}
}

// P3.3: trees as texts; what is no tree by the same words.
func TestPrint(t *testing.T) {
	n := api.Node{Name: "a", Attrs: []api.Attr{{Name: "k", Value: "\"<"}}, Kids: []api.Node{tx("x<\""), el("b"), el("c", tx("y"))}}
	if s := Print(n); s != "<a k=\"&quot;&lt;\">x&lt;\"<b/><c>y</c></a>" {
		t.Error(s)
	}
	if s := Print(api.Node{Text: "<", Attrs: n.Attrs, Kids: n.Kids}); s != "&lt;" {
		t.Error(s)
	}
	if s := Print(api.Node{Name: "a", Text: "x"}); s != "<a/>" {
		t.Error(s)
	}
	if Print(api.Node{}) != "" {
		t.Error("nothing")
	}
}

// P3.4: what is asked of a tree.
func TestAsk(t *testing.T) {
	n := api.Node{Name: "a", Attrs: []api.Attr{{Name: "k", Value: "1"}, {Name: "k", Value: "2"}}, Kids: []api.Node{tx(" x"), el("b", tx("no")), tx("y\n"), el("c"), el("b")}}
	if v, ok := Attr(n, "k"); v != "1" || !ok {
		t.Error(v)
	}
	if v, ok := Attr(n, "l"); v != "" || ok {
		t.Error(v)
	}
	if l := Kids(n, "b"); len(l) != 2 || !Same(l[0], el("b", tx("no"))) || !Same(l[1], el("b")) {
		t.Error(l)
	}
	if len(Kids(n, "")) != 3 || len(Kids(n, "x")) != 0 {
		t.Error("kids")
	}
	if Text(n) != "xy" || Text(el("a")) != "" || Count(n) != 7 || Count(api.Node{}) != 1 {
		t.Error(Text(n), Count(n))
	}
	n.Kids[4].Attrs = []api.Attr{{Name: "k", Value: "1"}}
	Kids(n, "b")[0].Kids[0].Text = "z"
	Kids(n, "b")[1].Attrs[0].Value = "z"
	if n.Kids[1].Kids[0].Text != "no" || n.Kids[4].Attrs[0].Value != "1" {
		t.Error("shared")
	}
	for i, m := range []api.Node{el("a", n.Kids...), {Name: "a", Attrs: n.Attrs}, {Name: "b", Attrs: n.Attrs, Kids: n.Kids}, {Name: "a", Attrs: n.Attrs, Kids: n.Kids, Text: "x"},
		{Name: "a", Attrs: []api.Attr{n.Attrs[1], n.Attrs[0]}, Kids: n.Kids}} {
		if Same(n, m) || Same(m, n) {
			t.Error("same", i)
		}
	}
	if !Same(n, n) || !Same(api.Node{Attrs: []api.Attr{}, Kids: []api.Node{}}, api.Node{}) {
		t.Error("same")
	}
}

func someTree(r *rand.Rand, depth int) api.Node {
	n := el([]string{"a", "b.c", "_"}[r.Intn(3)])
	for i := range r.Intn(3) {
		n.Attrs = append(n.Attrs, api.Attr{Name: string(rune('a' + i)), Value: []string{"", "<\"'", "\n\t\r &"}[r.Intn(3)]})
	}
	for range r.Intn(4) {
		if l := len(n.Kids); r.Intn(2) == 0 && (l == 0 || n.Kids[l-1].Name != "") {
			n.Kids = append(n.Kids, tx([]string{" ", "x<>&", "\r\n\xff", "]]>"}[r.Intn(4)]))
		} else if depth > 0 {
			n.Kids = append(n.Kids, someTree(r, depth-1))
		}
	}
	return n
}

// P3.5: what is printed is built as the same.
func TestBack(t *testing.T) {
	r := rand.New(rand.NewSource(3))
	for range 5000 {
		n := someTree(r, 4)
		if !May(n) {
			t.Fatal(n)
		}
		if m, e, _ := Build(Print(n)); e != api.OK || !Same(n, m) {
			t.Fatal(Print(n), e)
		}
	}
}

// P3.6: every text is a tree that may be, or an error; a wrong token's comes first.
func TestAnyText(t *testing.T) {
	pieces := []string{"<a>", "</a>", "<b/>", "<b k='1'>", "</b>", "x", " ", "<!--n-->", "<![CDATA[ ]]>", "<![CDATA[]]>", "&lt;", "&", "<", "\x00", "<?xml ?>"}
	r := rand.New(rand.NewSource(4))
	good := 0
	for range 200000 {
		s := ""
		for range r.Intn(9) {
			s += pieces[r.Intn(len(pieces))]
		}
		n, e, at := Build(s)
		if _, f, to := token.All(s); f != api.OK && (e != f || at != to) {
			t.Fatal(s, e, at)
		}
		if e != api.OK {
			if at != chars.At(s, at.Off) || !Same(n, api.Node{}) {
				t.Fatal(s, e, at)
			}
			continue
		}
		good++
		if m, e, _ := Build(Print(n)); !May(n) || e != api.OK || !Same(n, m) {
			t.Fatal(s, n, m)
		}
	}
	if good < 500 {
		t.Error(good)
	}
}
