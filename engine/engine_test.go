package engine

import (
	"math/rand"
	"slices"
	"strconv"
	"strings"
	"testing"

	"pomace/api"
	"pomace/audit"
	"pomace/bounds"
	"pomace/collect"
	"pomace/mediate"
	"pomace/model"
	"pomace/paths"
	"pomace/proof"
	"pomace/sample"
	"pomace/store"
)

// P19.1: each part is what its layer answers.
func TestParts(t *testing.T) {
	s := sample.Broken()
	e := New(s, sample.Gav("g:a:1"), 1000)
	tree, problem := collect.Tree(s, sample.Gav("g:a:1"))
	chosen := mediate.Choose(tree)
	f, audited := audit.Seek(s, model.New(s), sample.Gav("g:a:1"), 1000)
	got, p := e.Find()
	if e.Problem() != problem || !collect.Same(e.Tree(), tree) || !mediate.Same(e.Chosen(), chosen) || !slices.Equal(e.Report(), paths.Report(tree, chosen)) || !slices.EqualFunc(e.Breaches(), audit.Breaches(tree, chosen), audit.SameBreach) || p != audited || !sameFinding(f, got) {
		t.Error("parts")
	}
	for scope := -1; scope < 8; scope++ {
		if !slices.Equal(e.Path(scope), paths.Show(tree, chosen, scope)) {
			t.Error(scope)
		}
	}
	if sample.Tell(e.Path(api.ScopeCompile)) != "b1 d1 c1" || len(e.Breaches()) != 1 || len(got.Items) != 4 {
		t.Error("example")
	}
}

// P19.1: with a problem all but it is nothing.
func TestProblem(t *testing.T) {
	s := sample.Store("g:a:1", sample.Deps(sample.Dep("g:b [1]")))
	want := api.Problem{Err: api.ErrEmpty, Gav: sample.Gav("g:a:1"), Where: "g:b:jar"}
	e := New(s, sample.Gav("g:a:1"), -1)
	f, p := e.Find()
	if e.Problem() != want || p != want || !sameFinding(f, api.Finding{}) || len(e.Tree())+len(e.Chosen())+len(e.Path(1))+len(e.Report())+len(e.Breaches())+len(Why(e, sample.Key("a"))) > 0 || e.Steps() != 5 {
		t.Error(e.Problem(), p, e.Steps())
	}
	r := Run(s, sample.Gav("g:a:1"), 9)
	if !Same(r, api.Result{Problem: want, Audit: want}) {
		t.Error(r)
	}
	r = Run(sample.Broken(), sample.Gav("g:a:1"), -1)
	if r.Problem != (api.Problem{}) || r.Audit != (api.Problem{Err: api.ErrArg, Gav: sample.Gav("g:a:1"), Where: "most"}) || sample.Tell(r.Paths[0]) != "b1 d1 c1" || !sameFinding(r.Finding, api.Finding{}) {
		t.Error(r)
	}
	if p := New(nil, sample.Gav("g:a:1"), 9).Problem(); p != (api.Problem{Err: api.ErrPom, Gav: sample.Gav("g:a:1")}) {
		t.Error(p)
	}
}

// P19.2: each part once; what is answered is its own.
func TestOnce(t *testing.T) {
	s := sample.Broken()
	for i, w := range []struct {
		ask   func(e *Engine)
		steps int
	}{
		{func(e *Engine) {}, 0}, {func(e *Engine) { e.Problem(); e.Tree(); e.Problem() }, 1}, {func(e *Engine) { e.Chosen(); e.Tree() }, 2}, {func(e *Engine) { e.Path(1); e.Path(2) }, 2}, {func(e *Engine) { e.Report() }, 3}, {func(e *Engine) { e.Breaches(); e.Breaches() }, 3},
		{func(e *Engine) { e.Find(); e.Find() }, 2}, {func(e *Engine) { e.Find(); e.Report(); e.Breaches(); e.Path(5); Why(e, sample.Key("b")) }, 5}, {func(e *Engine) { Why(e, sample.Key("b")) }, 2},
	} {
		e := New(s, sample.Gav("g:a:1"), 9)
		w.ask(e)
		if e.Steps() != w.steps {
			t.Error(i, e.Steps())
		}
	}
	e := New(s, sample.Gav("g:a:1"), 9)
	e.Tree()
	asks := s.Asks()
	s.Put(sample.Gav("g:z:1"), "")
	e.Tree()
	e.Chosen()
	if s.Asks() != asks {
		t.Error("asked again")
	}
	e.Tree()[4].Range.Parts[0].Lo.Version = "x"
	e.Chosen()[0].Version = "x"
	e.Report()[0] = "x"
	b := e.Breaches()
	b[0].Path[0], b[0].Range.Parts[0].Lo.Version = 9, "x"
	f, _ := e.Find()
	f.Items[0].Version = "x"
	f, _ = e.Find()
	if e.Tree()[4].Range.Parts[0].Lo.Version == "x" || e.Chosen()[0].Version == "x" || e.Report()[0] == "x" || e.Breaches()[0].Path[0] == 9 || e.Breaches()[0].Range.Parts[0].Lo.Version == "x" || f.Items[0].Version == "x" {
		t.Error("kept")
	}
	e = New(sample.Store("g:a:1", sample.Deps(sample.Dep("g:b 1"), sample.Dep("g:c 1")), "g:b:1", sample.Deps(sample.Dep("g:d [1]")), "g:c:1", sample.Deps(sample.Dep("g:d [2]")), "g:d:1", "", "g:d:2", ""), sample.Gav("g:a:1"), 9)
	f, _ = e.Find()
	f.Question.Clauses[0][0], f.Proof[0] = 77, []int{77}
	if f, _ = e.Find(); f.End != api.Unsat || f.Question.Clauses[0][0] == 77 || proof.Check(f.Question, f.Proof) >= 0 {
		t.Error("kept")
	}
}

// P19.3: all at once; what is the same.
func TestRun(t *testing.T) {
	s := sample.Store("g:a:1", sample.Deps(sample.Dep("g:b 1"), sample.Dep("g:c 1 runtime"), sample.Dep("g:d 1 provided"), sample.Dep("g:e 1 system"), sample.Dep("g:f 1 test")), "g:b:1", "", "g:c:1", "", "g:d:1", "", "g:e:1", "", "g:f:1", "")
	r := Run(s, sample.Gav("g:a:1"), 9)
	for i, want := range []string{"b1 d1 e1", "b1 c1", "b1 d1", "e1", "b1 c1 d1 e1 f1"} {
		if sample.Tell(r.Paths[i]) != want {
			t.Error(i, sample.Tell(r.Paths[i]))
		}
	}
	if len(r.Report) != 6 || r.Finding.End != api.Sat || r.Problem != (api.Problem{}) || r.Audit != (api.Problem{}) || !Same(r, r) {
		t.Error(r)
	}
	full := Run(sample.Broken(), sample.Gav("g:a:1"), 9)
	full.Finding.Question, full.Finding.Proof = api.Question{Vars: 1, Clauses: [][]int{{1}}}, [][]int{{}}
	for i, change := range []func(r *api.Result){
		func(r *api.Result) { r.Problem.Err = 1 }, func(r *api.Result) { r.Paths[4] = nil }, func(r *api.Result) { r.Report = r.Report[1:] }, func(r *api.Result) { r.Breaches = nil }, func(r *api.Result) { r.Audit.Where = "x" }, func(r *api.Result) { r.Finding.End = 3 },
		func(r *api.Result) { r.Finding.Items = nil }, func(r *api.Result) { r.Finding.Question.Vars = 2 }, func(r *api.Result) { r.Finding.Question.Clauses = [][]int{{2}} }, func(r *api.Result) { r.Finding.Proof = nil }, func(r *api.Result) { r.Problem.Place.Line = 1 },
	} {
		x := full
		change(&x)
		if Same(full, x) || Same(x, full) {
			t.Error(i)
		}
	}
}

// P19.4: the way to what is chosen.
func TestWhy(t *testing.T) {
	e := New(sample.Broken(), sample.Gav("g:a:1"), 9)
	tree := e.Tree()
	if got := Why(e, sample.Key("d")); !collect.Same(got, []api.Branch{tree[0], tree[1], tree[3]}) {
		t.Error(got)
	}
	if got := Why(e, sample.Key("a")); !collect.Same(got, tree[:1]) {
		t.Error(got)
	}
	if got := Why(e, sample.Key("x")); len(got) != 0 {
		t.Error(got)
	}
}

// P19.5: a nil engine.
func TestNil(t *testing.T) {
	var e *Engine
	f, p := e.Find()
	if want := (api.Problem{Err: api.ErrPom}); e.Problem() != want || p != want || !sameFinding(f, api.Finding{}) {
		t.Error(p)
	}
	if len(e.Tree())+len(e.Chosen())+len(e.Path(1))+len(e.Report())+len(e.Breaches())+len(Why(e, sample.Key("a")))+e.Steps() > 0 {
		t.Error("something")
	}
}

func someStore(r *rand.Rand, wild bool) *store.Store {
	s := store.New()
	for _, a := range []string{"a", "b", "c", "d"} {
		for v := 1; v < 3; v++ {
			var ds []string
			for range r.Intn(4) {
				x := "g:" + string("abcd"[r.Intn(4)]) + " " + []string{"1", "2", "[1]", "[2]", "[1,2]", "[1,2)"}[r.Intn(6)] + []string{"", " test", " runtime", " provided"}[r.Intn(4)]
				if wild && r.Intn(20) == 0 {
					x = []string{"g:b [9]", "g:z 1", "g:b -", "g:b [", "* 1"}[r.Intn(5)]
				}
				ds = append(ds, sample.Dep(x))
			}
			text := sample.Project("g:"+a+":"+strconv.Itoa(v), sample.Deps(ds...))
			if wild && r.Intn(20) == 0 {
				text = text[:r.Intn(len(text))]
			}
			s.Put(sample.Gav("g:"+a+":"+strconv.Itoa(v)), text)
		}
	}
	return s
}

// P19.6, P19.7, P19.8: there is a problem, the tree's, or a result; it is what the layers say.
func TestEnds(t *testing.T) {
	r := rand.New(rand.NewSource(37))
	problems := 0
	for range 1000 {
		s := someStore(r, true)
		got := Run(s, sample.Gav("g:a:1"), r.Intn(20)-1)
		tree, problem := collect.Tree(s, sample.Gav("g:a:1"))
		if got.Problem != problem {
			t.Fatal(got.Problem, problem)
		}
		if problem != (api.Problem{}) {
			problems++
			if !Same(got, api.Result{Problem: problem, Audit: problem}) {
				t.Fatal(got)
			}
			continue
		}
		chosen := mediate.Choose(tree)
		for i, scope := range []int{api.ScopeCompile, api.ScopeRuntime, api.ScopeProvided, api.ScopeSystem, api.ScopeTest} {
			if !slices.Equal(got.Paths[i], paths.Show(tree, chosen, scope)) {
				t.Fatal(i)
			}
		}
		for _, x := range got.Breaches {
			if bounds.Has(x.Range, x.Version) {
				t.Fatal(x)
			}
		}
		f := got.Finding
		if f.End == api.Sat && !audit.Admits(s, model.New(s), sample.Gav("g:a:1"), f.Items) || f.End == api.Unsat && proof.Check(f.Question, f.Proof) >= 0 || (f.End == 0) != (got.Audit != api.Problem{}) {
			t.Fatal(f, got.Audit)
		}
	}
	if problems < 50 || problems > 950 {
		t.Error(problems)
	}
}

// P19.9: results hang on trees alone, and not on projects that nothing leads to.
func TestContent(t *testing.T) {
	r := rand.New(rand.NewSource(38))
	for range 300 {
		s := someStore(r, true)
		u := store.New()
		for _, g := range s.All() {
			text, _ := s.Text(g)
			if strings.HasSuffix(text, "</project>") {
				text = "<?xml ?>\n" + strings.ReplaceAll(text, "<version>", "<version ><!-- n -->")
			}
			u.Put(g, text)
		}
		u.Put(sample.Gav("other:a:1"), "<")
		a, b := Run(s, sample.Gav("g:a:1"), 50), Run(u, sample.Gav("g:a:1"), 50)
		a.Problem.Place, a.Audit.Place, b.Problem.Place, b.Audit.Place = api.Place{}, api.Place{}, api.Place{}, api.Place{}
		if !Same(a, b) {
			t.Fatal(a, b)
		}
	}
}
