package store

import (
	"math/rand"
	"slices"
	"strconv"
	"strings"
	"testing"

	"pomace/api"
	"pomace/coord"
	"pomace/pom"
	"pomace/version"
)

func gav(s string) api.Gav {
	l := strings.Split(s, ":")
	return api.Gav{Group: l[0], Artifact: l[1], Version: l[2]}
}

func text(a string) string { return "<project><artifactId>" + a + "</artifactId></project>" }

func filled(t *testing.T, l ...string) *Store {
	s := New()
	for _, g := range l {
		if e := s.Put(gav(g), text("a")); e != api.OK {
			t.Fatal(g, e)
		}
	}
	return s
}

func told(l []api.Gav) string {
	var out []string
	for _, g := range l {
		out = append(out, coord.PrintGav(g))
	}
	return strings.Join(out, " ")
}

// P9.1: what is put, and what isn't.
func TestPut(t *testing.T) {
	s := New()
	if s.Len() != 0 || len(s.All()) != 0 || s.Has(gav("g:a:1")) {
		t.Error("new")
	}
	if s.Put(gav("g:a:1"), "x\x00") != api.OK || s.Put(gav("g:a:1"), "y") != api.ErrTwice || s.Put(gav("g:a:[1]"), "y") != api.ErrArg || s.Put(api.Gav{}, "y") != api.ErrArg {
		t.Error("put")
	}
	if v, ok := s.Text(gav("g:a:1")); v != "x\x00" || !ok || !s.Has(gav("g:a:1")) || s.Len() != 1 {
		t.Error(v, ok)
	}
	if v, ok := s.Text(gav("g:a:1.0")); v != "" || ok || s.Has(gav("g:a:1.0")) {
		t.Error(v, ok)
	}
	for i := 1; i < api.MaxPoms; i++ {
		if s.Put(gav("g:b:"+strconv.Itoa(i)), strings.Repeat("x", i)) != api.OK {
			t.Fatal(i)
		}
	}
	if s.Put(gav("g:c:1"), "") != api.ErrBig || s.Put(gav("g:a:1"), "") != api.ErrTwice || s.Put(gav("g:a:"), "") != api.ErrArg || s.Len() != api.MaxPoms || s.Has(gav("g:c:1")) {
		t.Error("full")
	}
	if New().Put(gav("g:a:1"), strings.Repeat("x", api.MaxText+1)) != api.OK {
		t.Error("long")
	}
}

// P9.1: all projects and versions in order.
func TestOrder(t *testing.T) {
	s := filled(t, "h:a:1", "g:b:2", "g:b:10", "g:b:1.0", "g:b:1", "g.x:a:1", "G:z:1", "g:b:1-rc", "g:a:3", "g:b:1.0.0")
	if got := told(s.All()); got != "G:z:1 g:a:3 g:b:1-rc g:b:1.0 g:b:1 g:b:1.0.0 g:b:2 g:b:10 g.x:a:1 h:a:1" {
		t.Error(got)
	}
	if got := s.Versions(api.Id{Group: "g", Artifact: "b"}); !slices.Equal(got, []string{"1-rc", "1.0", "1", "1.0.0", "2", "10"}) {
		t.Error(got)
	}
	if got := s.Versions(api.Id{Group: "g", Artifact: "x"}); len(got) != 0 {
		t.Error(got)
	}
}

// P9.2: projects and problems; each text is read once.
func TestPom(t *testing.T) {
	s := New()
	s.Put(gav("g:a:1"), text("a"))
	s.Put(gav("g:a:2"), "<project>\n<x")
	s.Put(gav("g:a:3"), "<project><artifactId>a</artifactId><version/></project>")
	for range 2 {
		if p, prob := s.Pom(gav("g:a:1")); !pom.Same(p, api.Pom{Artifact: "a"}) || prob != (api.Problem{}) {
			t.Error(p, prob)
		}
		if p, prob := s.Pom(gav("g:a:2")); !pom.Same(p, api.Pom{}) || prob != (api.Problem{Err: api.ErrEnd, Gav: gav("g:a:2"), Place: api.Place{Off: 12, Line: 2, Col: 3}}) {
			t.Error(p, prob)
		}
		if p, prob := s.Pom(gav("g:a:3")); !pom.Same(p, api.Pom{}) || prob != (api.Problem{Err: api.ErrField, Gav: gav("g:a:3"), Where: "project/version"}) {
			t.Error(p, prob)
		}
		if p, prob := s.Pom(gav("g:a:4")); !pom.Same(p, api.Pom{}) || prob != (api.Problem{Err: api.ErrPom, Gav: gav("g:a:4")}) {
			t.Error(p, prob)
		}
	}
	if s.Reads() != 3 || s.Asks() != 8 {
		t.Error(s.Reads(), s.Asks())
	}
	Same(s, filled(t, "g:a:1", "g:a:2", "g:a:3"))
	s.All()
	s.Text(gav("g:a:1"))
	if s.Reads() != 3 || s.Asks() != 8 {
		t.Error("others count")
	}
	s = New()
	s.Put(gav("g:a:1"), "<project><artifactId>a</artifactId><properties><p>1</p></properties><dependencyManagement><dependencies><dependency><artifactId>b</artifactId></dependency></dependencies></dependencyManagement><dependencies><dependency><artifactId>b</artifactId><exclusions><exclusion><groupId>*</groupId><artifactId>*</artifactId></exclusion></exclusions></dependency></dependencies></project>")
	p, _ := s.Pom(gav("g:a:1"))
	p.Props[0].Value, p.Deps[0].Artifact, p.Deps[0].Excl[0].Group, p.Managed[0].Artifact = "2", "c", "g", "c"
	if q, _ := s.Pom(gav("g:a:1")); q.Props[0].Value != "1" || q.Managed[0].Artifact != "b" || q.Deps[0].Artifact != "b" || q.Deps[0].Excl[0].Group != "*" {
		t.Error("kept")
	}
}

// P9.2: stores that are the same.
func TestSame(t *testing.T) {
	one := func(g, text string) *Store {
		s := New()
		s.Put(gav(g), text)
		return s
	}
	a := one("g:a:1", "<p>x<b k='1'/></p>")
	if !Same(a, one("g:a:1", " <p>x<!-- n --><b k=\"1\"></b></p>")) || !Same(a, a) || !Same(New(), New()) || !Same(one("g:a:1", "<"), one("g:a:1", "<")) {
		t.Error("same")
	}
	for i, b := range []*Store{one("g:a:1", "<p>x<b/></p>"), one("g:a:2", "<p>x<b k='1'/></p>"), New(), filled(t, "g:a:1", "g:a:2"), one("g:a:1", "<"), nil} {
		if Same(a, b) || Same(b, a) {
			t.Error(i)
		}
	}
	if Same(one("g:a:1", "<"), one("g:a:1", "< ")) || !Same(filled(t, "g:a:1", "g:b:1"), filled(t, "g:b:1", "g:a:1")) {
		t.Error("texts that are none")
	}
}

// P9.3: a nil store.
func TestNil(t *testing.T) {
	var s *Store
	if s.Put(gav("g:a:1"), "") != api.ErrNone || s.Put(api.Gav{}, "") != api.ErrNone || s.Len() != 0 || s.Has(gav("g:a:1")) || len(s.All()) != 0 || len(s.Versions(api.Id{Group: "g", Artifact: "a"})) != 0 || s.Reads() != 0 || s.Asks() != 0 {
		t.Error("nil")
	}
	if v, ok := s.Text(gav("g:a:1")); v != "" || ok {
		t.Error(v)
	}
	if p, prob := s.Pom(gav("g:a:1")); !pom.Same(p, api.Pom{}) || prob != (api.Problem{Err: api.ErrPom, Gav: gav("g:a:1")}) {
		t.Error(prob)
	}
	if !Same(nil, nil) || Same(nil, New()) || Same(New(), nil) {
		t.Error("same")
	}
}

// P9.4: the order of putting changes nothing but the order of versions that are the same.
func TestAnyOrder(t *testing.T) {
	r := rand.New(rand.NewSource(15))
	l := []string{"g:a:1", "g:a:1.0", "g:a:2", "g:b:1", "f:a:9", "f:a:10", "f:a:1-rc"}
	a := filled(t, l...)
	for range 200 {
		m := slices.Clone(l)
		r.Shuffle(len(m), func(i, j int) { m[i], m[j] = m[j], m[i] })
		b := filled(t, m...)
		if !slices.EqualFunc(a.All(), b.All(), func(x, y api.Gav) bool {
			return x.Group == y.Group && x.Artifact == y.Artifact && version.Compare(x.Version, y.Version) == 0
		}) || !Same(a, b) {
			t.Fatal(m)
		}
		for _, g := range l {
			p, x := a.Pom(gav(g))
			q, y := b.Pom(gav(g))
			if !pom.Same(p, q) || x != y {
				t.Fatal(g)
			}
		}
	}
}

// P9.5: stores with the same trees answer the same, but for places.
func TestTreesAlone(t *testing.T) {
	a, b := New(), New()
	a.Put(gav("g:a:1"), "<project><artifactId>a</artifactId><properties><p>x</p></properties></project>")
	b.Put(gav("g:a:1"), "\n<project ><artifactId ><![CDATA[a]]></artifactId><properties><p>&#120;</p></properties></project>")
	a.Put(gav("g:a:2"), "<project><x/></project>")
	b.Put(gav("g:a:2"), "<?xml ?><project><x></x></project>")
	if !Same(a, b) {
		t.Fatal("same")
	}
	for _, g := range a.All() {
		p, x := a.Pom(g)
		q, y := b.Pom(g)
		if !pom.Same(p, q) || x != y {
			t.Error(g)
		}
	}
}

// P9.6: each text is read once at most.
func TestOnce(t *testing.T) {
	s := filled(t, "g:a:1", "g:a:2", "g:a:3")
	r := rand.New(rand.NewSource(16))
	for i := range 100 {
		s.Pom(gav("g:a:" + strconv.Itoa(r.Intn(3))))
		if s.Reads() > 2 || s.Asks() != i+1 {
			t.Fatal(s.Reads(), s.Asks())
		}
	}
}
