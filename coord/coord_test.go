package coord

import (
	"math/rand"
	"strings"
	"testing"

	"pomace/api"
)

var long = strings.Repeat("x", 64)

// P6.1: ids, names of projects, keys.
func TestMay(t *testing.T) {
	for _, s := range []string{"a", "Z", "0", ".", "-", "_", "org.x-y_z9", long} {
		if !IsId(s) {
			t.Error(s)
		}
	}
	for _, s := range []string{"", long + "x", "a:b", "a b", "a+", "*", "ä", "\x00", "a/b"} {
		if IsId(s) {
			t.Error(s)
		}
	}
	if !MayGav(api.Gav{Group: "g", Artifact: "a", Version: "1+x"}) || MayGav(api.Gav{Group: "g+", Artifact: "a", Version: "1"}) || MayGav(api.Gav{Group: "g", Artifact: "", Version: "1"}) || MayGav(api.Gav{Group: "g", Artifact: "a"}) {
		t.Error("MayGav")
	}
	k := api.Key{Group: "g", Artifact: "a", Type: "jar"}
	if !MayKey(k) || !MayKey(api.Key{Group: "g", Artifact: "a", Type: "jar", Classifier: "c"}) {
		t.Error("MayKey")
	}
	for i, k := range []api.Key{{}, {Artifact: "a", Type: "jar"}, {Group: "g", Type: "jar"}, {Group: "g", Artifact: "a"}, {Group: "g", Artifact: "a", Type: "jar", Classifier: "+"}, {Group: "g", Artifact: "a", Type: "j r"}} {
		if MayKey(k) {
			t.Error(i)
		}
	}
}

// P6.1: names as texts.
func TestTexts(t *testing.T) {
	if g, e := ParseGav("g.x:a:1+2"); e != api.OK || g != (api.Gav{Group: "g.x", Artifact: "a", Version: "1+2"}) || PrintGav(g) != "g.x:a:1+2" {
		t.Error(g, e)
	}
	for _, s := range []string{"", "g:a", "g:a:1:2", "g:a:", ":a:1", "g::1", " g:a:1", "g:a:1 ", "g:a:[1]"} {
		if g, e := ParseGav(s); e != api.ErrArg || g != (api.Gav{}) {
			t.Error(s, g, e)
		}
	}
	if k, e := ParseKey("g:a:jar:src"); e != api.OK || k != (api.Key{Group: "g", Artifact: "a", Type: "jar", Classifier: "src"}) || PrintKey(k) != "g:a:jar:src" {
		t.Error(k, e)
	}
	if k, e := ParseKey("g:a:jar"); e != api.OK || k != (api.Key{Group: "g", Artifact: "a", Type: "jar"}) || PrintKey(k) != "g:a:jar" {
		t.Error(k, e)
	}
	for _, s := range []string{"", "g:a", "g:a:jar:", "g:a::src", "g:a:", "g:a:jar:src:x", "g:a:jar:*", " g:a:jar"} {
		if k, e := ParseKey(s); e != api.ErrArg || k != (api.Key{}) {
			t.Error(s, k, e)
		}
	}
	if PrintGav(api.Gav{}) != "::" || PrintKey(api.Key{}) != "::" || PrintKey(api.Key{Classifier: "c"}) != ":::c" {
		t.Error("nothing")
	}
}

// P6.2: which key is lower.
func TestCompare(t *testing.T) {
	l := []api.Key{{}, {Classifier: "x"}, {Type: "a"}, {Artifact: "A"}, {Artifact: "a"}, {Artifact: "a", Type: "j"}, {Artifact: "a", Type: "j", Classifier: "c"}, {Group: "Z"}, {Group: "a"}, {Group: "a", Artifact: "b"}, {Group: "a."}, {Group: "a.b"}, {Group: "ab"}}
	for i, a := range l {
		for j, b := range l {
			want := 0
			if i < j {
				want = -1
			} else if i > j {
				want = 1
			}
			if Compare(a, b) != want {
				t.Error(a, b)
			}
		}
	}
}

var words = []string{"", "compile", "runtime", "provided", "system", "test", "import"}

// P6.3: scopes' words.
func TestWords(t *testing.T) {
	for n, w := range words {
		if Word(n) != w {
			t.Error(n)
		}
		if m, ok := Scope(w); n > 0 && (m != n || !ok) {
			t.Error(w)
		}
	}
	for _, w := range []string{"", "Compile", "compile ", "x"} {
		if n, ok := Scope(w); n != 0 || ok {
			t.Error(w)
		}
	}
	if Word(-1) != "" || Word(7) != "" {
		t.Error("others")
	}
}

// P6.4: derived, wider, visible scopes.
func TestScopes(t *testing.T) {
	for outer := -1; outer < 9; outer++ {
		for inner := -1; inner < 9; inner++ {
			want := 0
			if (outer == 1 || outer == 2 || outer == 3 || outer == 5) && (inner == 1 || inner == 2) {
				want = outer
				if outer == 1 {
					want = inner
				}
			}
			if Derive(outer, inner) != want {
				t.Error("Derive", outer, inner)
			}
			wider := outer
			if a, b := outer >= 1 && outer <= 5, inner >= 1 && inner <= 5; b && (!a || inner < outer) {
				wider = inner
			}
			if Wider(outer, inner) != wider {
				t.Error("Wider", outer, inner)
			}
		}
	}
	shows := map[int][]int{1: {1, 3, 4}, 2: {1, 2}, 3: {1, 3}, 4: {4}, 5: {1, 2, 3, 4, 5}}
	for path := -1; path < 9; path++ {
		for scope := -1; scope < 9; scope++ {
			want := false
			for _, s := range shows[path] {
				want = want || s == scope
			}
			if Visible(scope, path) != want {
				t.Error("Visible", scope, path)
			}
		}
	}
}

// P6.5: patterns.
func TestPatterns(t *testing.T) {
	id := api.Id{Group: "g", Artifact: "a"}
	for _, w := range []struct {
		p        api.Id
		may, hit bool
	}{
		{id, true, true}, {api.Id{Group: "*", Artifact: "a"}, true, true}, {api.Id{Group: "g", Artifact: "*"}, true, true}, {api.Id{Group: "*", Artifact: "*"}, true, true},
		{api.Id{Group: "g", Artifact: "b"}, true, false}, {api.Id{Group: "h", Artifact: "*"}, true, false}, {api.Id{Group: "g*", Artifact: "a"}, false, false}, {api.Id{Group: "g"}, false, false}, {api.Id{Group: "**", Artifact: "a"}, false, false},
	} {
		if MayPattern(w.p) != w.may || Matches(w.p, id) != w.hit {
			t.Error(w.p)
		}
	}
	if !Matches(api.Id{Artifact: "*"}, api.Id{Artifact: "x"}) {
		t.Error("empty")
	}
}

// P6.6: what is printed is parsed as the same, and no two are printed alike.
func TestBack(t *testing.T) {
	r := rand.New(rand.NewSource(9))
	id := func() string { return []string{"a", "b.c", "-", "jar", "a-b"}[r.Intn(5)] }
	keys := map[string]api.Key{}
	for range 5000 {
		k := api.Key{Group: id(), Artifact: id(), Type: id()}
		if r.Intn(2) == 0 {
			k.Classifier = id()
		}
		s := PrintKey(k)
		if l, e := ParseKey(s); e != api.OK || l != k {
			t.Fatal(s)
		}
		if l, ok := keys[s]; ok && l != k {
			t.Fatal(k, l)
		}
		keys[s] = k
		g := api.Gav{Group: id(), Artifact: id(), Version: id()}
		if h, e := ParseGav(PrintGav(g)); e != api.OK || g != h {
			t.Fatal(g)
		}
	}
}

// P6.7: Compare is an order.
func TestOrder(t *testing.T) {
	r := rand.New(rand.NewSource(10))
	s := func() string { return []string{"", "a", "b", "a:b"}[r.Intn(4)] }
	key := func() api.Key { return api.Key{Group: s(), Artifact: s(), Type: s(), Classifier: s()} }
	for range 50000 {
		a, b, c := key(), key(), key()
		if Compare(a, b) != -Compare(b, a) || (Compare(a, b) == 0) != (a == b) || Compare(a, b) <= 0 && Compare(b, c) <= 0 && Compare(a, c) > 0 {
			t.Fatal(a, b, c)
		}
	}
}

// P6.8, P6.9: scopes go together; what is wider is seen by tests.
func TestTogether(t *testing.T) {
	for a := range 7 {
		for b := range 7 {
			for c := range 7 {
				if Derive(Derive(a, b), c) != Derive(a, Derive(b, c)) {
					t.Error("Derive", a, b, c)
				}
				if a > 0 && a < 6 && b > 0 && b < 6 && (Wider(a, b) != Wider(b, a) || Wider(Wider(a, b), c) != Wider(a, Wider(b, c))) {
					t.Error("Wider", a, b, c)
				}
			}
			if Wider(a, b) > 0 && Wider(a, b) < 6 && !Visible(Wider(a, b), api.ScopeTest) {
				t.Error("Visible", a, b)
			}
		}
	}
}
