package chain

import (
	"math/rand"
	"slices"
	"strconv"
	"testing"

	"pomace/api"
	"pomace/pom"
	"pomace/store"
	"pomace/tree"
)

func gav(a, v string) api.Gav { return api.Gav{Group: "g", Artifact: a, Version: v} }

func put(t *testing.T, s *store.Store, g api.Gav, p api.Pom) {
	if p.Artifact == "" {
		p.Artifact = g.Artifact
	}
	if e := s.Put(g, tree.Print(pom.Write(p))); e != api.OK {
		t.Fatal(g, e)
	}
}

// line fills a store with n projects, each the parent of the one ahead; the last one's parent is of the number last, none if that is 0.
func line(t *testing.T, n, last int) *store.Store {
	s := store.New()
	for i := 1; i <= n; i++ {
		p := api.Pom{HasParent: true, Parent: gav("a", strconv.Itoa(i+1))}
		if i == n {
			p = api.Pom{}
			if last > 0 {
				p = api.Pom{HasParent: true, Parent: gav("a", strconv.Itoa(last))}
			}
		}
		put(t, s, gav("a", strconv.Itoa(i)), p)
	}
	return s
}

// P10.1: a project and its parents, and what goes wrong on the way.
func TestWalk(t *testing.T) {
	s := line(t, 3, 0)
	poms, way, problem := Walk(s, gav("a", "1"))
	if problem != (api.Problem{}) || !slices.Equal(way, []api.Gav{gav("a", "1"), gav("a", "2"), gav("a", "3")}) || len(poms) != 3 || poms[1].Parent != way[2] || poms[2].HasParent {
		t.Error(poms, way, problem)
	}
	for i, w := range []struct {
		s    *store.Store
		want api.Problem
	}{
		{line(t, 1, 1), api.Problem{Err: api.ErrChain, Gav: gav("a", "1"), Where: "project/parent"}},
		{line(t, 3, 2), api.Problem{Err: api.ErrChain, Gav: gav("a", "3"), Where: "project/parent"}},
		{line(t, 3, 9), api.Problem{Err: api.ErrPom, Gav: gav("a", "9")}},
		{line(t, 32, 0), api.Problem{}},
		{line(t, 33, 0), api.Problem{Err: api.ErrBig, Gav: gav("a", "32"), Where: "project/parent"}},
		{line(t, 32, 1), api.Problem{Err: api.ErrChain, Gav: gav("a", "32"), Where: "project/parent"}},
		{line(t, 32, 99), api.Problem{Err: api.ErrBig, Gav: gav("a", "32"), Where: "project/parent"}},
		{nil, api.Problem{Err: api.ErrPom, Gav: gav("a", "1")}},
	} {
		poms, way, problem := Walk(w.s, gav("a", "1"))
		if problem != w.want || problem.Err != api.OK && (poms != nil || way != nil) {
			t.Error(i, problem)
		}
		if p, problem := Merged(w.s, gav("a", "1")); problem != w.want || problem.Err != api.OK && !pom.Same(p, api.Pom{}) {
			t.Error(i, problem)
		}
	}
	s.Put(gav("b", "1"), "<project/>")
	if _, _, problem := Walk(s, gav("b", "1")); problem != (api.Problem{Err: api.ErrField, Gav: gav("b", "1"), Where: "project/artifactId"}) {
		t.Error(problem)
	}
}

// P10.2: keys, and lists laid under one another.
func TestUnder(t *testing.T) {
	if k := Key(api.Dep{Group: "g", Artifact: "a", Classifier: "c", Version: "1"}); k != (api.Key{Group: "g", Artifact: "a", Type: "jar", Classifier: "c"}) {
		t.Error(k)
	}
	if k := Key(api.Dep{Group: "${g}", Type: "war"}); k != (api.Key{Group: "${g}", Type: "war"}) {
		t.Error(k)
	}
	dep := func(a, typ, v string) api.Dep { return api.Dep{Artifact: a, Type: typ, Version: v} }
	l := []api.Dep{dep("a", "", "1"), dep("a", "jar", "2"), dep("b", "war", "1")}
	more := []api.Dep{dep("a", "jar", "3"), dep("b", "", "4"), dep("c", "", "5"), dep("b", "war", "6"), dep("c", "jar", "7")}
	var got []string
	for _, d := range Under(l, more) {
		got = append(got, d.Version)
	}
	if !slices.Equal(got, []string{"1", "2", "1", "4", "5", "7"}) {
		t.Error(got)
	}
	x := []api.Dep{{Artifact: "a", Excl: []api.Id{{Group: "g"}}}}
	Under(x, nil)[0].Excl[0].Group = "h"
	Under(nil, x)[0].Excl[0].Group = "h"
	if x[0].Excl[0].Group != "g" || len(Under(nil, nil)) != 0 {
		t.Error("shared")
	}
}

// P10.3: a child over its parent.
func TestMerge(t *testing.T) {
	parent := api.Pom{Group: "pg", Artifact: "p", Version: "1", Packaging: "pom", Props: []api.Prop{{Name: "p", Value: "1"}, {Name: "q", Value: "1"}}, Managed: []api.Dep{{Artifact: "m", Version: "1"}, {Artifact: "n"}}, Deps: []api.Dep{{Artifact: "d"}}}
	child := api.Pom{HasParent: true, Parent: api.Gav{Group: "named", Artifact: "p", Version: "9"}, Artifact: "c", Props: []api.Prop{{Name: "r"}, {Name: "p", Value: "2"}}, Managed: []api.Dep{{Artifact: "m", Version: "2"}}, Deps: []api.Dep{{Artifact: "e"}}}
	want := api.Pom{HasParent: true, Parent: child.Parent, Group: "named", Artifact: "c", Version: "9", Props: []api.Prop{{Name: "p", Value: "2"}, {Name: "q", Value: "1"}, {Name: "r"}}, Managed: []api.Dep{{Artifact: "m", Version: "2"}, {Artifact: "n"}}, Deps: []api.Dep{{Artifact: "e"}, {Artifact: "d"}}}
	if got := Merge(child, parent); !pom.Same(got, want) {
		t.Error(got)
	}
	child.Group, child.Version, child.Packaging = "own", "own", "war"
	if got := Merge(child, parent); got.Group != "own" || got.Version != "own" || got.Packaging != "war" {
		t.Error(got)
	}
	child.HasParent, child.Group, child.Version = false, "", ""
	if got := Merge(child, parent); got.Group != "" || got.Version != "" || got.HasParent {
		t.Error(got)
	}
}

// P10.3: all of a line merged.
func TestMerged(t *testing.T) {
	s := store.New()
	put(t, s, gav("c", "1"), api.Pom{HasParent: true, Parent: gav("b", "2"), Props: []api.Prop{{Name: "p", Value: "c"}}})
	put(t, s, gav("b", "2"), api.Pom{HasParent: true, Parent: gav("a", "3"), Props: []api.Prop{{Name: "p", Value: "b"}, {Name: "q", Value: "b"}}, Deps: []api.Dep{{Artifact: "x"}}})
	put(t, s, gav("a", "3"), api.Pom{Props: []api.Prop{{Name: "r", Value: "a"}, {Name: "q", Value: "a"}}, Deps: []api.Dep{{Artifact: "y"}, {Artifact: "x", Version: "1"}}})
	want := api.Pom{HasParent: true, Parent: gav("b", "2"), Group: "g", Artifact: "c", Version: "2", Props: []api.Prop{{Name: "r", Value: "a"}, {Name: "q", Value: "b"}, {Name: "p", Value: "c"}}, Deps: []api.Dep{{Artifact: "x"}, {Artifact: "y"}}}
	if p, problem := Merged(s, gav("c", "1")); problem != (api.Problem{}) || !pom.Same(p, want) {
		t.Error(p, problem)
	}
}

func somePom(r *rand.Rand) api.Pom {
	word := func() string { return []string{"", "a", "b"}[r.Intn(3)] }
	deps := func() []api.Dep {
		var l []api.Dep
		for range r.Intn(4) {
			l = append(l, api.Dep{Group: word(), Artifact: "x", Version: word(), Type: []string{"", "jar", "war"}[r.Intn(3)]})
		}
		return l
	}
	p := api.Pom{Group: word(), Artifact: "a", Version: word(), Managed: deps(), Deps: deps()}
	if r.Intn(3) > 0 {
		p.HasParent, p.Parent = true, gav("p", "1")
	}
	for _, name := range []string{"p", "q", "r"} {
		if r.Intn(2) == 0 {
			p.Props = append(p.Props, api.Prop{Name: name, Value: word()})
		}
	}
	r.Shuffle(len(p.Props), func(i, j int) { p.Props[i], p.Props[j] = p.Props[j], p.Props[i] })
	return p
}

// P10.4, P10.5: merging goes together, and what a child says counts.
func TestFollows(t *testing.T) {
	r := rand.New(rand.NewSource(17))
	for range 20000 {
		a, b, c := somePom(r), somePom(r), somePom(r)
		if !pom.Same(Merge(a, Merge(b, c)), Merge(Merge(a, b), c)) {
			t.Fatal(a, b, c)
		}
		m := Merge(a, b)
		for _, p := range a.Props {
			if !slices.Contains(m.Props, p) {
				t.Fatal(a, b)
			}
		}
		for _, d := range a.Deps {
			first := func(l []api.Dep) api.Dep {
				return l[slices.IndexFunc(l, func(x api.Dep) bool { return Key(x) == Key(d) })]
			}
			if !pom.SameDep(first(a.Deps), first(m.Deps)) {
				t.Fatal(a, b)
			}
		}
	}
}
