package audit

import (
	"math/rand"
	"slices"
	"strconv"
	"strings"
	"testing"

	"pomace/api"
	"pomace/bounds"
	"pomace/collect"
	"pomace/mediate"
	"pomace/model"
	"pomace/proof"
	"pomace/sample"
	"pomace/store"
)

func chosen(t *testing.T, s *store.Store, root string) ([]api.Branch, []api.Choice) {
	l, problem := collect.Tree(s, sample.Gav(root))
	if problem != (api.Problem{}) {
		t.Fatal(problem)
	}
	return l, mediate.Choose(l)
}

// P18.1: which ranges are broken.
func TestBreaches(t *testing.T) {
	l, c := chosen(t, sample.Broken(), "g:a:1")
	got := Breaches(l, c)
	r, _ := bounds.Parse("[2]")
	want := api.Breach{Key: api.Key{Group: "g", Artifact: "d", Type: "jar"}, Version: "1", Path: []int{1, 0}, Range: r}
	if len(got) != 1 || !SameBreach(got[0], want) {
		t.Error(got)
	}
	got[0].Range.Parts[0].Lo.Version = "9"
	if l[4].Range.Parts[0].Lo.Version != "2" {
		t.Error("shared")
	}
	if len(Breaches(nil, nil)) != 0 {
		t.Error("none")
	}
	for i, change := range []func(b *api.Breach){func(b *api.Breach) { b.Key.Group = "" }, func(b *api.Breach) { b.Version = "" }, func(b *api.Breach) { b.Path = nil }, func(b *api.Breach) { b.Range = api.Range{} }} {
		b := want
		change(&b)
		if SameBreach(want, b) {
			t.Error(i)
		}
	}
	// what isn't live breaks nothing: e loses with all that it needs
	s := sample.Store("g:a:1", sample.Deps(sample.Dep("g:d 1"), sample.Dep("g:b 1"), sample.Dep("g:e 1")), "g:b:1", sample.Deps(sample.Dep("g:c 1"), sample.Dep("g:e 2")), "g:c:1", "", "g:d:1", "", "g:d:2", "", "g:e:1", sample.Deps(sample.Dep("g:d (,2]")), "g:e:2", sample.Deps(sample.Dep("g:d [2]")))
	if l, c := chosen(t, s, "g:a:1"); len(Breaches(l, c)) != 0 {
		t.Error(Breaches(l, c))
	}
}

// P18.2, P18.3: the deal: its items and what they want.
func TestDeal(t *testing.T) {
	for i, w := range []struct {
		items, wants string
		l            []string
	}{
		{"a1 b1 b2 c1 d1 d2", "[[1 2] [3]] [[4]] [[5]] [[5]] [] []", nil},
		{"a1 b1.0 b1 c2", "[[1 2] [3]] [] [] []", []string{"g:a:1", sample.Deps(sample.Dep("g:b [1]", sample.Optional), sample.Dep("g:c [2,3) test")), "g:b:1.0", sample.Deps(sample.Dep("g:x 1", sample.Optional), sample.Dep("g:x 1 test"), sample.Dep("g:x [1] provided"), sample.Dep("g:x 1 system")), "g:b:1", "", "g:b:2", "", "g:c:2", "", "g:c:3", "", "g:x:1", ""}},
		{"a1 b1 x1", "[[1]] [[2]] []", []string{"g:a:1", sample.Deps(sample.Dep("g:b 1")), "g:b:1", sample.Deps(sample.Dep("g:x 9 runtime")), "g:x:1", ""}},
		{"a1 b1 x2 y1", "[[1]] [[2] [3]] [] []", []string{"g:a:1", sample.Managed(sample.Dep("g:x [2] runtime"), sample.Dep("g:y -"), sample.Dep("g:z - test")) + sample.Deps(sample.Dep("g:b 1")), "g:b:1", sample.Deps(sample.Dep("g:x 9 test"), sample.Dep("g:y [1]"), sample.Dep("g:z 1")), "g:x:1", "", "g:x:2", "", "g:y:1", "", "g:y:2", "", "g:z:1", ""}},
		{"a1 b1 c1", "[[1] [2]] [] []", []string{"g:a:1", sample.Deps(sample.Dep("g:b 1"), sample.Dep("g:c 1", sample.Without("*:x"))), "g:b:1", sample.Deps(sample.Dep("g:x 1")), "g:c:1", "", "g:x:1", ""}},
		{"a1 b1 b2", "[[1 2] []] [[]] []", []string{"g:a:1", sample.Deps(sample.Dep("g:b 1"), sample.Dep("g:c 1")), "g:b:1", sample.Deps(sample.Dep("g:x -")), "g:b:2", ""}},
		{"a1 b1", "[[1]] [[0]]", []string{"g:a:1", sample.Deps(sample.Dep("g:b 1")), "g:b:1", sample.Deps(sample.Dep("g:a (,)"))}},
		{"a1 b1 b1war", "[[1] [2]] [] []", []string{"g:a:1", sample.Deps(sample.Dep("g:b 1"), sample.Dep("g:b 1", "<type>war</type>")), "g:b:1", ""}},
	} {
		s := sample.Broken()
		if w.l != nil {
			s = sample.Store(w.l...)
		}
		d, problem := Deal(s, model.New(s), sample.Gav("g:a:1"))
		if problem != (api.Problem{}) || sample.Tell(d.Items) != w.items || d.Root != 0 || tellWants(d.Wants) != w.wants {
			t.Error(i, sample.Tell(d.Items), tellWants(d.Wants), problem)
		}
	}
}

// tellWants writes wants as lists of lists.
func tellWants(l [][][]int) string {
	var items []string
	for _, wants := range l {
		var out []string
		for _, want := range wants {
			var ns []string
			for _, n := range want {
				ns = append(ns, strconv.Itoa(n))
			}
			out = append(out, "["+strings.Join(ns, " ")+"]")
		}
		items = append(items, "["+strings.Join(out, " ")+"]")
	}
	return strings.Join(items, " ")
}

// many makes a store in which a needs m versions of one artifact, by so many others.
func many(t *testing.T, n int) *store.Store {
	l := []string{"g:a:1", sample.Deps(sample.Dep("g:b 1"))}
	for i := range n {
		l = append(l, "g:b:"+strconv.Itoa(i), "")
	}
	return sample.Store(l...)
}

// P18.3, P18.4: problems.
func TestProblems(t *testing.T) {
	typed := func(n int, more ...string) string {
		l := more
		for i := range n {
			l = append(l, sample.Dep("g:b 1", "<classifier>k"+strconv.Itoa(i)+"</classifier>"))
		}
		return sample.Deps(l...)
	}
	big := sample.Store("g:a:1", typed(341, sample.Dep("g:c 1")), "g:b:1", "", "g:b:2", "", "g:b:3", "", "g:c:1", "")
	full := sample.Store("g:a:1", typed(341), "g:b:1", "", "g:b:2", "", "g:b:3", "")
	for i, w := range []struct {
		s    *store.Store
		most int
		want api.Problem
	}{
		{sample.Store(), 9, api.Problem{Err: api.ErrPom, Gav: sample.Gav("g:a:1")}},
		{sample.Store("g:a:1", sample.Deps(sample.Dep("g:b -"))), 9, api.Problem{Err: api.ErrFree, Gav: sample.Gav("g:a:1"), Where: "dependency[1]/version"}},
		{big, 9, api.Problem{Err: api.ErrBig, Gav: sample.Gav("g:a:1"), Where: "deal"}},
		{many(t, 182), 9, api.Problem{Err: api.ErrBig, Gav: sample.Gav("g:a:1"), Where: "question"}},
		{many(t, 182), -1, api.Problem{Err: api.ErrBig, Gav: sample.Gav("g:a:1"), Where: "question"}},
		{many(t, 180), 9, api.Problem{}}, {full, 9, api.Problem{}},
		{sample.Broken(), -1, api.Problem{Err: api.ErrArg, Gav: sample.Gav("g:a:1"), Where: "most"}},
	} {
		f, problem := Seek(w.s, model.New(w.s), sample.Gav("g:a:1"), w.most)
		if problem != w.want || problem.Err != api.OK && (f.End != 0 || len(f.Items)+len(f.Proof)+len(f.Question.Clauses) > 0) {
			t.Error(i, problem)
		}
		d, problem := Deal(w.s, model.New(w.s), sample.Gav("g:a:1"))
		if dealt := w.want.Err == api.OK || w.want.Where == "question" || w.want.Where == "most"; dealt != (problem == api.Problem{}) || !dealt && (problem != w.want || len(d.Items)+len(d.Wants) > 0) {
			t.Error(i, problem)
		}
	}
	if _, problem := Seek(nil, nil, sample.Gav("g:a:1"), 9); problem != (api.Problem{Err: api.ErrPom, Gav: sample.Gav("g:a:1")}) || Admits(nil, nil, sample.Gav("g:a:1"), nil) {
		t.Error(problem)
	}
}

// P18.4: what is found, or shown not to be there.
func TestSeek(t *testing.T) {
	s := sample.Broken()
	f, problem := Seek(s, model.New(s), sample.Gav("g:a:1"), 1000)
	if problem != (api.Problem{}) || f.End != api.Sat || sample.Tell(f.Items) != "a1 b2 c1 d2" || len(f.Proof)+len(f.Question.Clauses) > 0 || f.Question.Vars != 0 {
		t.Error(f, problem)
	}
	s = sample.Store("g:a:1", sample.Deps(sample.Dep("g:b 1"), sample.Dep("g:c 1")), "g:b:1", sample.Deps(sample.Dep("g:d [1]")), "g:c:1", sample.Deps(sample.Dep("g:d [2]")), "g:d:1", "", "g:d:2", "")
	f, problem = Seek(s, model.New(s), sample.Gav("g:a:1"), 1000)
	if problem != (api.Problem{}) || f.End != api.Unsat || len(f.Items) > 0 || proof.Check(f.Question, f.Proof) >= 0 || f.Question.Vars != 5 {
		t.Error(f, problem)
	}
	f, problem = Seek(s, model.New(s), sample.Gav("g:a:1"), 0)
	if problem != (api.Problem{}) || f.End != api.Open || len(f.Items)+len(f.Proof)+len(f.Question.Clauses) > 0 {
		t.Error(f, problem)
	}
}

// P18.5: which choices break no range.
func TestAdmits(t *testing.T) {
	s := sample.Broken()
	b := model.New(s)
	item := func(w string) api.Item {
		return api.Item{Key: api.Key{Group: "g", Artifact: w[:1], Type: "jar"}, Version: w[1:]}
	}
	for l, want := range map[string]bool{"a1 b2 c1 d2": true, "d2 c1 b2 a1 a1": true, "a1 b1 c1 d1": false, "a1 b1 c1 d2": false, "a1 b2 c1 d2 d1": false, "a1 b2 c1": false, "b2 c1 d2": false, "": false, "a1 b2 c1 d2 e1": false, "a1 b2 c1 d3": false} {
		var items []api.Item
		for _, w := range strings.Fields(l) {
			items = append(items, item(w))
		}
		if Admits(s, b, sample.Gav("g:a:1"), items) != want {
			t.Error(l)
		}
	}
	if Admits(s, b, sample.Gav("g:z:1"), []api.Item{item("z1")}) {
		t.Error("a problem")
	}
	s = sample.Store("g:a:1", sample.Deps(sample.Dep("g:b 1")), "g:b:1", sample.Deps(sample.Dep("g:c -")), "g:b:2", "")
	if Admits(s, model.New(s), sample.Gav("g:a:1"), []api.Item{item("a1"), item("b1")}) || !Admits(s, model.New(s), sample.Gav("g:a:1"), []api.Item{item("a1"), item("b2")}) {
		t.Error("an item's problem")
	}
}

// someStore: projects of some versions that need one another by hard ranges; plain: nothing but that.
func someStore(t *testing.T, r *rand.Rand, plain bool) *store.Store {
	var l []string
	for _, a := range []string{"a", "b", "c", "d"} {
		for v := 1; v < 3; v++ {
			var ds []string
			for range r.Intn(3) {
				s := "g:" + string("bcd"[r.Intn(3)]) + " " + []string{"[1]", "[2]", "[1,2]", "[1,2)", "1"}[r.Intn(5-b2i(plain))]
				more := ""
				if !plain {
					s += []string{"", " test", " runtime"}[r.Intn(3)]
					more = []string{"", "", sample.Optional, sample.Without("*:d")}[r.Intn(4)]
				}
				ds = append(ds, sample.Dep(s, more))
			}
			in := sample.Deps(ds...)
			if !plain && r.Intn(3) == 0 {
				in = sample.Managed(sample.Dep("g:d [2]")) + in
			}
			l = append(l, "g:"+a+":"+strconv.Itoa(v), in)
		}
	}
	return sample.Store(l...)
}

func b2i(b bool) int {
	if b {
		return 1
	}
	return 0
}

// P18.6, P18.7, P18.8: breaches, findings and proofs are right.
func TestFollows(t *testing.T) {
	r := rand.New(rand.NewSource(36))
	ends := map[int]int{}
	fine := 0
	for round := range 2000 {
		plain := round%2 == 0
		s := someStore(t, r, plain)
		b := model.New(s)
		l, c := chosen(t, s, "g:a:1")
		var paths [][]int
		for i, live := range mediate.Live(l) {
			x, _ := mediate.Find(c, l[i].Key)
			if live && l[i].Range.Hard && !bounds.Has(l[i].Range, x.Version) {
				paths = append(paths, collect.Path(l, i))
			}
		}
		got := Breaches(l, c)
		if !slices.EqualFunc(got, paths, func(x api.Breach, p []int) bool { return slices.Equal(x.Path, p) }) {
			t.Fatal(got, paths)
		}
		f, problem := Seek(s, b, sample.Gav("g:a:1"), 1<<30)
		if problem != (api.Problem{}) {
			t.Fatal(problem)
		}
		ends[f.End]++
		d, _ := Deal(s, b, sample.Gav("g:a:1"))
		any := false
		for bits := range 1 << len(d.Items) {
			var items []api.Item
			for i, x := range d.Items {
				if bits>>i&1 == 1 {
					items = append(items, x)
				}
			}
			if bits&1 == 1 && Admits(s, b, sample.Gav("g:a:1"), items) {
				any = true
				break
			}
		}
		if any != (f.End == api.Sat) || any && !Admits(s, b, sample.Gav("g:a:1"), f.Items) || !any && proof.Check(f.Question, f.Proof) >= 0 {
			t.Fatal(f)
		}
		if plain && len(got) == 0 {
			fine++
			var items []api.Item
			for _, x := range c {
				items = append(items, api.Item{Key: x.Key, Version: x.Version})
			}
			if !Admits(s, b, sample.Gav("g:a:1"), items) {
				t.Fatal(sample.Tell(items))
			}
		}
	}
	if ends[api.Sat] < 100 || ends[api.Unsat] < 100 || fine < 100 {
		t.Error(ends, fine)
	}
}
