package prop

import (
	"math/rand"
	"slices"
	"strconv"
	"strings"
	"testing"

	"pomace/api"
)

func props(l ...string) []api.Prop {
	var out []api.Prop
	for i := 0; i < len(l); i += 2 {
		out = append(out, api.Prop{Name: l[i], Value: l[i+1]})
	}
	return out
}

// P8.1: references in a text.
func TestRefs(t *testing.T) {
	for s, want := range map[string][]string{
		"": nil, "a": nil, "${a}": {"a"}, "x${a}y${b}${a}": {"a", "b", "a"}, "${}": {""}, "${a": nil, "$a}": nil, "{a}": nil, "${a${b}c}": {"a${b"}, "$${a}}": {"a"}, "${ a\n}": {" a\n"}, "${a}${b": {"a"}, "$${": nil, "${${}}": {"${"},
	} {
		if got := Refs(s); !slices.Equal(got, want) {
			t.Errorf("%q: %q", s, got)
		}
	}
}

// P8.2: lists of properties.
func TestLists(t *testing.T) {
	l := props("a", "1", "b", "2", "a", "3")
	if v, ok := Get(l, "a"); v != "1" || !ok {
		t.Error(v)
	}
	if v, ok := Get(l, "c"); v != "" || ok {
		t.Error(v)
	}
	if got := Put(l, "a", "9"); !slices.Equal(got, props("a", "9", "b", "2", "a", "3")) {
		t.Error(got)
	}
	if got := Put(l, "c", ""); !slices.Equal(got, props("a", "1", "b", "2", "a", "3", "c", "")) {
		t.Error(got)
	}
	if got := Over(l, props("c", "4", "b", "5", "c", "6", "a", "7")); !slices.Equal(got, props("a", "7", "b", "5", "a", "3", "c", "6")) {
		t.Error(got)
	}
	if got := Over(nil, props("a", "1", "a", "2")); !slices.Equal(got, props("a", "2")) {
		t.Error(got)
	}
	if !slices.Equal(l, props("a", "1", "b", "2", "a", "3")) {
		t.Error("changed")
	}
	room := append(make([]api.Prop, 0, 9), l...)
	Put(room, "c", "1")
	if room[:4][3] != (api.Prop{}) {
		t.Error("spare room")
	}
	Over(l, nil)[0].Value = "x"
	if l[0].Value != "1" {
		t.Error("shared")
	}
}

// chained: n properties, each of which needs the next.
func chained(n int) []api.Prop {
	var l []api.Prop
	for i := 1; i < n; i++ {
		l = append(l, api.Prop{Name: "p" + strconv.Itoa(i), Value: "${p" + strconv.Itoa(i+1) + "}"})
	}
	return append(l, api.Prop{Name: "p" + strconv.Itoa(n), Value: "end"})
}

// P8.3: what is expanded, and what goes wrong.
func TestExpand(t *testing.T) {
	big := strings.Repeat("x", api.MaxValue)
	for _, w := range []struct {
		l       []api.Prop
		s, want string
		e       api.Errno
		name    string
	}{
		{props("a", "1", "b", "${a}.2"), "x${b}${c}", "x1.2${c}", api.OK, ""},
		{props("a", "1", "a", "2"), "${a}${a}", "11", api.OK, ""},
		{props("a", ""), "${a}${}${a", "${}${a", api.OK, ""},
		{props("", "e"), "${}", "e", api.OK, ""},
		{props("a", "${", "b", "x"), "${a}b}", "${b}", api.OK, ""},
		{props("a", "${b}", "b", "${a}"), "${a}", "", api.ErrProp, "a"},
		{props("a", "${b}", "b", "${a}"), "${b}${a}", "", api.ErrProp, "b"},
		{props("a", "${a}"), "${c}${a}", "", api.ErrProp, "a"},
		{props("a", "${b}", "b", "${b}"), "${a}", "", api.ErrProp, "b"},
		{props("a", "${a}", "b", "${b}"), "${b}${a}", "", api.ErrProp, "b"},
		{props("a", big), "${a}", big, api.OK, ""},
		{props("a", big), "x${a}", "", api.ErrBig, ""},
		{props("a", big, "b", "${a}x"), "${b}", "", api.ErrBig, "b"},
		{props("a", big+"x"), "${a}", "", api.ErrBig, "a"},
		{props("a", big+"x${a}"), "${a}", "", api.ErrBig, "a"},
		{props("a", big+"${a}"), "${a}", "", api.ErrProp, "a"},
		{props("a", "${a}"), big + "x${a}", "", api.ErrBig, ""},
		{props("a", "${a}"), big + "${a}", "", api.ErrProp, "a"},
		{nil, big[3:] + "${}", big[3:] + "${}", api.OK, ""},
		{nil, big[2:] + "${}", "", api.ErrBig, ""},
		{chained(32), "${p1}", "end", api.OK, ""},
		{chained(33), "${p1}", "", api.ErrBig, "p33"},
		{chained(33), "${p2}${p1}", "endend", api.OK, ""},
		{append(chained(32), props("p32", "x", "p33", "y")...), "${p1}", "end", api.OK, ""},
		{append(chained(31), props("p0", "${unknown}")...), "${p1}${p0}", "end${unknown}", api.OK, ""},
	} {
		tab := New(w.l)
		if s, e, name := tab.Expand(w.s); s != w.want || e != w.e || name != w.name {
			t.Errorf("%.30s: %.30q %d %s", w.s, s, e, name)
		}
	}
	last := chained(32)
	last[31].Value = "${unknown}${p1}"
	if _, e, name := New(last).Expand("${p1}"); e != api.ErrProp || name != "p1" {
		t.Error("ErrProp ahead of ErrBig", e, name)
	}
}

// P8.3: what a table remembers; all of its properties.
func TestTable(t *testing.T) {
	tab := New(props("a", "${b}", "b", "1", "c", "${c}", "d", "${a}${c}", "a", "2"))
	if tab.Known() != 0 {
		t.Error(tab.Known())
	}
	tab.Expand("x")
	tab.Expand("${b}${b}${x}")
	if tab.Known() != 1 {
		t.Error(tab.Known())
	}
	if _, e, name := tab.Expand("${d}"); e != api.ErrProp || name != "c" || tab.Known() != 2 {
		t.Error(e, name, tab.Known())
	}
	if l, e, name := tab.All(); l != nil || e != api.ErrProp || name != "c" || tab.Known() != 2 {
		t.Error(l, e, name)
	}
	tab = New(props("a", "${b}", "b", "1", "a", "2", "x}", "${a}"))
	if l, e, name := tab.All(); !slices.Equal(l, props("a", "1", "b", "1", "x}", "1")) || e != api.OK || name != "" || tab.Known() != 3 {
		t.Error(l, e, name)
	}
	if l, e, name := New(chained(33)).All(); l != nil || e != api.ErrBig || name != "p33" {
		t.Error(l, e, name)
	}
	tab = New(chained(33))
	tab.Expand("${p20}")
	if l, e, _ := tab.All(); len(l) != 33 || e != api.OK {
		t.Error("what was expanded ahead")
	}
	given := props("a", "1")
	tab = New(given)
	given[0].Value = "2"
	if s, _, _ := tab.Expand("${a}"); s != "1" {
		t.Error("kept")
	}
}

// P8.3: a nil table.
func TestNil(t *testing.T) {
	var tab *Table
	if s, e, name := tab.Expand("x${a}"); s != "x${a}" || e != api.OK || name != "" {
		t.Error(s, e, name)
	}
	if s, e, name := tab.Expand(strings.Repeat("x", api.MaxValue+1)); s != "" || e != api.ErrBig || name != "" {
		t.Error(e, name)
	}
	if l, e, name := tab.All(); l != nil || e != api.OK || name != "" || tab.Known() != 0 {
		t.Error(l, e, name)
	}
}

func some(r *rand.Rand, names string) string {
	s := ""
	for range r.Intn(4) {
		if r.Intn(2) == 0 {
			s += "-"
		}
		s += "${" + string(names[r.Intn(len(names))]) + "}"
	}
	return s
}

// someProps: properties of which each needs those behind it alone, but for a rare one.
func someProps(r *rand.Rand) []api.Prop {
	const names = "abcdefg"
	var l []api.Prop
	for i := range names {
		from := i + 1
		if r.Intn(20) == 0 {
			from = 0
		}
		l = append(l, api.Prop{Name: names[i : i+1], Value: some(r, names[from:]+"xy")})
	}
	return l
}

// P8.4: no reference to a known name is left.
func TestNoneLeft(t *testing.T) {
	r := rand.New(rand.NewSource(13))
	for range 20000 {
		l := someProps(r)
		s, e, _ := New(l).Expand(some(r, "abcdefgxy"))
		if e != api.OK {
			continue
		}
		for _, name := range Refs(s) {
			if _, ok := Get(l, name); ok {
				t.Fatal(l, s)
			}
		}
	}
}

// P8.5, P8.6: what is remembered, what isn't needed, and the order change nothing.
func TestNothingElse(t *testing.T) {
	r := rand.New(rand.NewSource(14))
	for range 20000 {
		l := someProps(r)
		s := some(r, "abcdefgxy")
		want, e, name := New(l).Expand(s)
		tab := New(l)
		tab.Expand(some(r, "abcdefg"))
		tab.All()
		if got, f, n := tab.Expand(s); got != want || f != e || n != name {
			t.Fatal(l, s, got, want)
		}
		more := append(props("unknown", "${unknown}"), l...)
		r.Shuffle(len(more), func(i, j int) { more[i], more[j] = more[j], more[i] })
		if got, f, n := New(more).Expand(s); got != want || f != e || n != name {
			t.Fatal(l, s, got, want)
		}
	}
}
