package nearest

import (
	"math/rand"
	"slices"
	"strconv"
	"strings"
	"testing"

	"pomace/api"
	"pomace/audit"
	"pomace/cnf"
	"pomace/collect"
	"pomace/mediate"
	"pomace/model"
	"pomace/proof"
	"pomace/sample"
	"pomace/sat"
	"pomace/store"
)

func item(w string) api.Item { return api.Item{Key: sample.Key(w[:1]), Version: w[1:]} }

func choices(l string) []api.Choice {
	var out []api.Choice
	for _, w := range strings.Fields(l) {
		out = append(out, api.Choice{Key: sample.Key(w[:1]), Version: w[1:]})
	}
	return out
}

// P26.1: what isn't chosen, and how much of it is taken.
func TestOthers(t *testing.T) {
	d := api.Deal{Items: []api.Item{item("a1"), item("b1"), item("b2"), item("c1"), item("d1")}}
	c := choices("a1 b2 d2 b1 d1")
	if got := Others(d, c); !slices.Equal(got, []int{1, 3, 4}) {
		t.Error(got)
	}
	if len(Others(api.Deal{}, c)) != 0 || len(Others(d, nil)) != 5 {
		t.Error("none")
	}
	for want, taken := range [][]int{{0, 2, 9, -1}, {1, 1, 0}, {4, 1, 4, 2}, {0, 1, 2, 3, 4}} {
		if got := Cost(d, c, taken); got != want {
			t.Error(taken, got)
		}
	}
}

// P26.2: the ends.
func TestOf(t *testing.T) {
	s := sample.Broken()
	d, _ := audit.Deal(s, model.New(s), sample.Gav("g:a:1"))
	near, e := Of(d, choices("a1 b1 c1 d1"), 1000)
	if e != api.OK || near.End != api.Sat || near.Cost != 2 || sample.Tell(near.Items) != "a1 b2 c1 d2" || proof.Check(near.Question, near.Proof) >= 0 {
		t.Error(near, e)
	}
	// the question with one less: the deal's, and at most one of the two others
	q, _ := cnf.Encode(d)
	if near.Question.Vars != 7 || !slices.EqualFunc(near.Question.Clauses, append(slices.Clone(q.Clauses), []int{-3, 7}, []int{-6, -7}), slices.Equal[[]int]) {
		t.Error(near.Question)
	}
	if near, e := Of(d, choices("a1 b2 c1 d2"), 1000); e != api.OK || near.End != api.Sat || near.Cost != 0 || sample.Tell(near.Items) != "a1 b2 c1 d2" || near.Question.Vars != 0 || len(near.Question.Clauses)+len(near.Proof) > 0 {
		t.Error(near, e)
	}
	never := api.Deal{Items: []api.Item{item("a1")}, Wants: [][][]int{{{}}}}
	if near, e := Of(never, nil, 1000); e != api.OK || near.End != api.Unsat || near.Cost != 0 || len(near.Items) > 0 || proof.Check(near.Question, near.Proof) >= 0 {
		t.Error(near, e)
	}
	if near, e := Of(never, nil, 0); e != api.OK || near.End != api.Open || near.Question.Vars != 0 || len(near.Question.Clauses)+len(near.Proof) > 0 {
		t.Error(near, e)
	}
	// the deal itself has no conflict, but Q(0) has one
	if near, e := Of(api.Deal{Items: []api.Item{item("a1")}, Wants: [][][]int{nil}}, nil, 0); e != api.OK || near.End != api.Open || len(near.Question.Clauses) > 0 {
		t.Error(near, e)
	}
	if near, e := Of(api.Deal{Items: []api.Item{item("a1")}, Wants: [][][]int{nil}}, nil, 1); e != api.OK || near.End != api.Sat || near.Cost != 1 || sample.Tell(near.Items) != "a1" {
		t.Error(near, e)
	}
	// none of the others is too many till their counting has too many variables
	many := api.Deal{}
	for i := range 600 {
		many.Items = append(many.Items, api.Item{Key: sample.Key("x" + strconv.Itoa(i))})
		many.Wants = append(many.Wants, [][]int{{min(i+1, 599)}})
	}
	for i, w := range []struct {
		d    api.Deal
		most int
		e    api.Errno
	}{{api.Deal{}, 9, api.ErrArg}, {api.Deal{Items: make([]api.Item, 1025)}, 9, api.ErrBig}, {api.Deal{Items: make([]api.Item, 1025)}, -1, api.ErrBig}, {d, -1, api.ErrArg}, {many, 1 << 30, api.ErrBig}} {
		near, e := Of(w.d, nil, w.most)
		if e != w.e || near.End != 0 || near.Cost != 0 || len(near.Items)+len(near.Question.Clauses)+len(near.Proof) > 0 {
			t.Error(i, near, e)
		}
	}
}

// P26.3: of a project, and each problem.
func TestSeek(t *testing.T) {
	s := sample.Broken()
	if near, problem := Seek(s, model.New(s), sample.Gav("g:a:1"), 1000); problem != (api.Problem{}) || near.Cost != 2 || sample.Tell(near.Items) != "a1 b2 c1 d2" {
		t.Error(near, problem)
	}
	many := []string{"g:a:1", sample.Needs("b 1")}
	for i := range 182 {
		many = append(many, "g:b:"+strconv.Itoa(i), "")
	}
	for i, w := range []struct {
		s    *store.Store
		most int
		want api.Problem
	}{
		{sample.Store(), 9, api.Problem{Err: api.ErrPom, Gav: sample.Gav("g:a:1")}}, {sample.Store("g:a:1", sample.Needs("b [1]")), 9, api.Problem{Err: api.ErrEmpty, Gav: sample.Gav("g:a:1"), Where: "g:b:jar"}}, {s, -1, api.Problem{Err: api.ErrArg, Gav: sample.Gav("g:a:1"), Where: "nearest"}},
		{sample.Store(many...), 9, api.Problem{Err: api.ErrBig, Gav: sample.Gav("g:a:1"), Where: "nearest"}},
	} {
		if near, problem := Seek(w.s, model.New(w.s), sample.Gav("g:a:1"), w.most); problem != w.want || near.End != 0 || len(near.Items) > 0 {
			t.Error(i, problem)
		}
	}
	// the deal's problem: more items than may be, where the tree is small
	s = classified()
	if _, problem := Seek(s, model.New(s), sample.Gav("g:a:1"), 9); problem != (api.Problem{Err: api.ErrBig, Gav: sample.Gav("g:a:1"), Where: "deal"}) {
		t.Error(problem)
	}
}

// classified makes a store with few projects, but many items.
func classified() *store.Store {
	var l []string
	for i := range 350 {
		l = append(l, sample.Dep("g:b 1", "<classifier>k"+strconv.Itoa(i)+"</classifier>"))
	}
	return sample.Store("g:a:1", sample.Deps(l...), "g:b:1", "", "g:b:2", "", "g:b:3", "")
}

// P26.4, P26.5: nothing that is admitted costs less; what was chosen and is admitted costs nothing.
func TestFollows(t *testing.T) {
	r := rand.New(rand.NewSource(40))
	costs := map[int]int{}
	for range 1500 {
		var l []string
		for _, a := range []string{"a", "b", "c", "d"} {
			for v := 1; v < 3; v++ {
				need := ""
				for range r.Intn(3) {
					need += string("bcd"[r.Intn(3)]) + " " + []string{"[1]", "[2]", "[1,2]", "[1,2)", "1"}[r.Intn(5)] + ";"
				}
				l = append(l, "g:"+a+":"+strconv.Itoa(v), sample.Needs(need))
			}
		}
		s := sample.Store(l...)
		b := model.New(s)
		near, problem := Seek(s, b, sample.Gav("g:a:1"), 1<<30)
		if problem != (api.Problem{}) {
			t.Fatal(problem)
		}
		tree, _ := collect.Tree(s, sample.Gav("g:a:1"))
		chosen := mediate.Choose(tree)
		d, _ := audit.Deal(s, b, sample.Gav("g:a:1"))
		least := -1
		for bits := range 1 << len(d.Items) {
			var taken []int
			for i := range d.Items {
				if bits>>i&1 == 1 {
					taken = append(taken, i)
				}
			}
			if cost := Cost(d, chosen, taken); cnf.Right(d, taken) && (least < 0 || cost < least) {
				least = cost
			}
		}
		if least < 0 {
			if near.End != api.Unsat || proof.Check(near.Question, near.Proof) >= 0 {
				t.Fatal(near)
			}
			continue
		}
		costs[least]++
		if near.End != api.Sat || near.Cost != least || !audit.Admits(s, b, sample.Gav("g:a:1"), near.Items) || (least > 0) != (proof.Check(near.Question, near.Proof) < 0) || sat.May(near.Question) != api.OK {
			t.Fatal(near, least)
		}
		others := 0
		for _, x := range near.Items {
			c, ok := mediate.Find(chosen, x.Key)
			if !ok || c.Version != x.Version {
				others++
			}
		}
		if others != least {
			t.Fatal(near, least)
		}
	}
	if costs[0] < 50 || costs[1] < 20 || costs[2] < 10 {
		t.Error(costs)
	}
}
