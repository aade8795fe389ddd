package nearest

import (
	"math/rand"
	"slices"
	"strconv"
	"strings"
	"testing"

	"pomace/api"
	"pomace/audit"
	"pomace/cnf"
	"pomace/collect"
	"pomace/coord"
	"pomace/mediate"
	"pomace/model"
	"pomace/proof"
	"pomace/sat"
	"pomace/store"
)

func gav(s string) api.Gav {
	g, _ := coord.ParseGav(s)
	return g
}

func key(a string) api.Key { return api.Key{Group: "g", Artifact: a, Type: "jar"} }

func item(w string) api.Item { return api.Item{Key: key(w[:1]), Version: w[1:]} }

func choices(l string) []api.Choice {
	var out []api.Choice
	for _, w := range strings.Fields(l) {
		out = append(out, api.Choice{Key: key(w[:1]), Version: w[1:]})
	}
	return out
}

func told(l []api.Item) string {
	var out []string
	for _, x := range l {
		out = append(out, x.Key.Artifact+x.Version)
	}
	return strings.Join(out, " ")
}

// filled makes a store of names and what they need.
func filled(t *testing.T, l ...string) *store.Store {
	s := store.New()
	for i := 0; i < len(l); i += 2 {
		g := gav(l[i])
		text := "<project><groupId>" + g.Group + "</groupId><artifactId>" + g.Artifact + "</artifactId><version>" + g.Version + "</version><dependencies>"
		w := strings.Fields(l[i+1])
		for k := 0; k+1 < len(w); k += 2 {
			text += "<dependency><groupId>g</groupId><artifactId>" + w[k] + "</artifactId><version>" + w[k+1] + "</version></dependency>"
		}
		if e := s.Put(g, text+"</dependencies></project>"); e != api.OK {
			t.Fatal(l[i], e)
		}
	}
	return s
}

func example(t *testing.T) *store.Store {
	return filled(t, "g:a:1", "b 1 c 1", "g:b:1", "d [1]", "g:c:1", "d [2]", "g:b:2", "d [2]", "g:d:1", "", "g:d:2", "")
}

// P26.1: what isn't chosen, and how much of it is taken.
func TestOthers(t *testing.T) {
	d := api.Deal{Items: []api.Item{item("a1"), item("b1"), item("b2"), item("c1"), item("d1")}}
	c := choices("a1 b2 d2 b1 d1")
	if got := Others(d, c); !slices.Equal(got, []int{1, 3, 4}) {
		t.Error(got)
	}
	if len(Others(api.Deal{}, c)) != 0 || len(Others(d, nil)) != 5 {
		t.Error("none")
	}
	for want, taken := range [][]int{{0, 2, 9, -1}, {1, 1, 0}, {4, 1, 4, 2}, {0, 1, 2, 3, 4}} {
		if got := Cost(d, c, taken); got != want {
			t.Error(taken, got)
		}
	}
}

// P26.2: the ends.
func TestOf(t *testing.T) {
	s := example(t)
	d, _ := audit.Deal(s, model.New(s), gav("g:a:1"))
	near, e := Of(d, choices("a1 b1 c1 d1"), 1000)
	if e != api.OK || near.End != api.Sat || near.Cost != 2 || told(near.Items) != "a1 b2 c1 d2" || proof.Check(near.Question, near.Proof) >= 0 {
		t.Error(near, e)
	}
	// the question with one less: the deal's, and at most one of the two others
	q, _ := cnf.Encode(d)
	if near.Question.Vars != 7 || !slices.EqualFunc(near.Question.Clauses, append(slices.Clone(q.Clauses), []int{-3, 7}, []int{-6, -7}), slices.Equal[[]int]) {
		t.Error(near.Question)
	}
	if near, e := Of(d, choices("a1 b2 c1 d2"), 1000); e != api.OK || near.End != api.Sat || near.Cost != 0 || told(near.Items) != "a1 b2 c1 d2" || near.Question.Vars != 0 || len(near.Question.Clauses)+len(near.Proof) > 0 {
		t.Error(near, e)
	}
	never := api.Deal{Items: []api.Item{item("a1")}, Wants: [][][]int{{{}}}}
	if near, e := Of(never, nil, 1000); e != api.OK || near.End != api.Unsat || near.Cost != 0 || len(near.Items) > 0 || proof.Check(near.Question, near.Proof) >= 0 {
		t.Error(near, e)
	}
	if near, e := Of(never, nil, 0); e != api.OK || near.End != api.Open || near.Question.Vars != 0 || len(near.Question.Clauses)+len(near.Proof) > 0 {
		t.Error(near, e)
	}
	// the deal itself has no conflict, but Q(0) has one
	if near, e := Of(api.Deal{Items: []api.Item{item("a1")}, Wants: [][][]int{nil}}, nil, 0); e != api.OK || near.End != api.Open || len(near.Question.Clauses) > 0 {
		t.Error(near, e)
	}
	if near, e := Of(api.Deal{Items: []api.Item{item("a1")}, Wants: [][][]int{nil}}, nil, 1); e != api.OK || near.End != api.Sat || near.Cost != 1 || told(near.Items) != "a1" {
		t.Error(near, e)
	}
	// none of the others is too many till their counting has too many variables
	many := api.Deal{}
	for i := range 600 {
		many.Items = append(many.Items, api.Item{Key: key("x" + strconv.Itoa(i))})
		many.Wants = append(many.Wants, [][]int{{min(i+1, 599)}})
	}
	for i, w := range []struct {
		d    api.Deal
		most int
		e    api.Errno
	}{{api.Deal{}, 9, api.ErrArg}, {api.Deal{Items: make([]api.Item, 1025)}, 9, api.ErrBig}, {api.Deal{Items: make([]api.Item, 1025)}, -1, api.ErrBig}, {d, -1, api.ErrArg}, {many, 1 << 30, api.ErrBig}} {
		near, e := Of(w.d, nil, w.most)
		if e != w.e || near.End != 0 || near.Cost != 0 || len(near.Items)+len(near.Question.Clauses)+len(near.Proof) > 0 {
			t.Error(i, near, e)
		}
	}
}

// P26.3: of a project, and each problem.
func TestSeek(t *testing.T) {
	s := example(t)
	if near, problem := Seek(s, model.New(s), gav("g:a:1"), 1000); problem != (api.Problem{}) || near.Cost != 2 || told(near.Items) != "a1 b2 c1 d2" {
		t.Error(near, problem)
	}
	many := []string{"g:a:1", "b 1"}
	for i := range 182 {
		many = append(many, "g:b:"+strconv.Itoa(i), "")
	}
	for i, w := range []struct {
		s    *store.Store
		most int
		want api.Problem
	}{
		{filled(t), 9, api.Problem{Err: api.ErrPom, Gav: gav("g:a:1")}}, {filled(t, "g:a:1", "b [1]"), 9, api.Problem{Err: api.ErrEmpty, Gav: gav("g:a:1"), Where: "g:b:jar"}}, {s, -1, api.Problem{Err: api.ErrArg, Gav: gav("g:a:1"), Where: "nearest"}},
		{filled(t, many...), 9, api.Problem{Err: api.ErrBig, Gav: gav("g:a:1"), Where: "nearest"}},
	} {
		if near, problem := Seek(w.s, model.New(w.s), gav("g:a:1"), w.most); problem != w.want || near.End != 0 || len(near.Items) > 0 {
			t.Error(i, problem)
		}
	}
	// the deal's problem: more items than may be, where the tree is small
	s = classified(t)
	if _, problem := Seek(s, model.New(s), gav("g:a:1"), 9); problem != (api.Problem{Err: api.ErrBig, Gav: gav("g:a:1"), Where: "deal"}) {
		t.Error(problem)
	}
}

// classified makes a store with few projects, but many items.
func classified(t *testing.T) *store.Store {
	text := "<project><groupId>g</groupId><artifactId>a</artifactId><version>1</version><dependencies>"
	for i := range 350 {
		text += "<dependency><groupId>g</groupId><artifactId>b</artifactId><version>1</version><classifier>k" + strconv.Itoa(i) + "</classifier></dependency>"
	}
	s := filled(t, "g:b:1", "", "g:b:2", "", "g:b:3", "")
	if s.Put(gav("g:a:1"), text+"</dependencies></project>") != api.OK {
		t.Fatal("put")
	}
	return s
}

// P26.4, P26.5: nothing that is admitted costs less; what was chosen and is admitted costs nothing.
func TestFollows(t *testing.T) {
	r := rand.New(rand.NewSource(40))
	costs := map[int]int{}
	for range 1500 {
		var l []string
		for _, a := range []string{"a", "b", "c", "d"} {
			for v := 1; v < 3; v++ {
				need := ""
				for range r.Intn(3) {
					need += string("bcd"[r.Intn(3)]) + " " + []string{"[1]", "[2]", "[1,2]", "[1,2)", "1"}[r.Intn(5)] + " "
				}
				l = append(l, "g:"+a+":"+strconv.Itoa(v), need)
			}
		}
		s := filled(t, l...)
		b := model.New(s)
		near, problem := Seek(s, b, gav("g:a:1"), 1<<30)
		if problem != (api.Problem{}) {
			t.Fatal(problem)
		}
		tree, _ := collect.Tree(s, gav("g:a:1"))
		chosen := mediate.Choose(tree)
		d, _ := audit.Deal(s, b, gav("g:a:1"))
		least := -1
		for bits := range 1 << len(d.Items) {
			var taken []int
			for i := range d.Items {
				if bits>>i&1 == 1 {
					taken = append(taken, i)
				}
			}
			if cost := Cost(d, chosen, taken); cnf.Right(d, taken) && (least < 0 || cost < least) {
				least = cost
			}
		}
		if least < 0 {
			if near.End != api.Unsat || proof.Check(near.Question, near.Proof) >= 0 {
				t.Fatal(near)
			}
			continue
		}
		costs[least]++
		if near.End != api.Sat || near.Cost != least || !audit.Admits(s, b, gav("g:a:1"), near.Items) || (least > 0) != (proof.Check(near.Question, near.Proof) < 0) || sat.May(near.Question) != api.OK {
			t.Fatal(near, least)
		}
		others := 0
		for _, x := range near.Items {
			c, ok := mediate.Find(chosen, x.Key)
			if !ok || c.Version != x.Version {
				others++
			}
		}
		if others != least {
			t.Fatal(near, least)
		}
	}
	if costs[0] < 50 || costs[1] < 20 || costs[2] < 10 {
		t.Error(costs)
	}
}
