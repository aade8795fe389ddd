package sat

import (
	"math"
	"math/rand"
	"slices"
	"testing"

	"pomace/api"
	"pomace/proof"
)

func ask(vars int, clauses ...[]int) api.Question {
	return api.Question{Vars: vars, Clauses: clauses}
}

// brute: are there truths?
func brute(q api.Question) bool {
	truths := make([]bool, q.Vars)
	for bits := range 1 << q.Vars {
		for v := range truths {
			truths[v] = bits>>v&1 == 1
		}
		if proof.Holds(q, truths) < 0 {
			return true
		}
	}
	return false
}

// some: a question at random, at times with clauses that are empty, have a literal twice, or both of a variable.
func some(r *rand.Rand, vars, clauses int) api.Question {
	q := api.Question{Vars: vars}
	for range clauses {
		var c []int
		for range 1 + r.Intn(3) + r.Intn(2) {
			n := 1 + r.Intn(vars)
			if r.Intn(2) == 0 {
				n = -n
			}
			c = append(c, n)
		}
		q.Clauses = append(q.Clauses, c)
	}
	return q
}

// holes: so many pigeons in one hole less.
func holes(n int) api.Question {
	q := api.Question{Vars: n * (n - 1)}
	in := func(p, h int) int { return p*(n-1) + h + 1 }
	for p := range n {
		var c []int
		for h := range n - 1 {
			c = append(c, in(p, h))
		}
		q.Clauses = append(q.Clauses, c)
	}
	for h := range n - 1 {
		for p := range n {
			for o := range p {
				q.Clauses = append(q.Clauses, []int{-in(p, h), -in(o, h)})
			}
		}
	}
	return q
}

// P15.1: what may be a question.
func TestMay(t *testing.T) {
	many := make([][]int, api.MaxCls)
	long := slices.Repeat([]int{1}, 2*api.MaxVars)
	for i, w := range []struct {
		q api.Question
		e api.Errno
	}{
		{ask(0), api.OK}, {ask(0, nil), api.OK}, {ask(2, []int{1, 1, -1, -2}), api.OK}, {ask(api.MaxVars, many...), api.OK}, {ask(1, long), api.OK},
		{ask(api.MaxVars + 1), api.ErrBig}, {ask(1, append(many, nil)...), api.ErrBig}, {ask(1, append(long, 1)), api.ErrBig}, {ask(-1, append(long, 0)), api.ErrBig},
		{ask(-1), api.ErrArg}, {ask(1, []int{0}), api.ErrArg}, {ask(1, []int{2}), api.ErrArg}, {ask(1, []int{1}, []int{-2}), api.ErrArg}, {ask(0, []int{math.MinInt}), api.ErrArg}, {ask(5, []int{math.MaxInt}), api.ErrArg}, {ask(math.MinInt), api.ErrArg}, {ask(math.MaxInt, []int{0}), api.ErrBig},
	} {
		if e := May(w.q); e != w.e {
			t.Error(i, e)
		}
		if a, e := Solve(w.q, 9); e != w.e || e != api.OK && (a.End != 0 || a.Conflicts != 0 || len(a.Truths)+len(a.Proof) > 0) {
			t.Error(i, e)
		}
	}
	if a, e := Solve(ask(1), -1); e != api.ErrArg || a.End != 0 {
		t.Error(e)
	}
	if _, e := Solve(ask(-1), -1); e != api.ErrArg {
		t.Error(e)
	}
}

// P15.2: the ends of small searches.
func TestEnds(t *testing.T) {
	for i, w := range []struct {
		q    api.Question
		most int
		end  int
	}{
		{ask(0), 0, api.Sat}, {ask(3), 0, api.Sat}, {ask(2, []int{1, 2}, []int{-1, 2}, []int{1, -2}), 9, api.Sat}, {ask(2, []int{1, 2}, []int{-1, 2}, []int{1, -2}, []int{-1, -2}), 9, api.Unsat},
		{ask(1, nil), 0, api.Unsat}, {ask(1, []int{1}, []int{-1}, []int{}), 0, api.Unsat}, {ask(1, []int{1}, []int{-1}), 0, api.Open}, {ask(1, []int{1}, []int{-1}), 1, api.Unsat}, {ask(2, []int{1, 2}, []int{-1, 2}, []int{1, -2}, []int{-1, -2}), 0, api.Open},
		{ask(2, []int{1, 1}, []int{-1, -1, 2}, []int{-2, -2}), 0, api.Open}, {ask(2, []int{1, -1}, []int{2, -2, 1}), 0, api.Sat},
	} {
		a, e := Solve(w.q, w.most)
		if e != api.OK || a.End != w.end || !proof.Right(w.q, a) {
			t.Error(i, a, e)
		}
		if a.End == api.Open && a.Conflicts != w.most+1 || a.End != api.Open && a.Conflicts > w.most {
			t.Error(i, a.Conflicts)
		}
	}
	if a, _ := Solve(ask(1, nil), 0); len(a.Proof) != 1 || len(a.Proof[0]) != 0 || a.Conflicts != 0 {
		t.Error(a)
	}
}

// right: is a an answer, with no empty clause in its proof but the last, and as many conflicts as may be?
func right(t *testing.T, q api.Question, a api.Answer, most int) {
	if !proof.Right(q, a) {
		t.Fatal(q, a)
	}
	for i, c := range a.Proof {
		if (len(c) == 0) != (i == len(a.Proof)-1) {
			t.Fatal(a.Proof)
		}
	}
	if a.End == api.Open && a.Conflicts != most+1 || a.End != api.Open && a.Conflicts > most || a.Conflicts < 0 {
		t.Fatal(a.Conflicts, most)
	}
}

// P15.2, P15.4, P15.6: the ends are right, whatever the question; twice the same.
func TestAll(t *testing.T) {
	r := rand.New(rand.NewSource(24))
	ends := map[int]int{}
	for range 20000 {
		q := some(r, 1+r.Intn(9), r.Intn(40))
		most := r.Intn(12)
		if r.Intn(2) == 0 {
			most = math.MaxInt
		}
		a, e := Solve(q, most)
		if e != api.OK || a.End == api.Open && most > 1000 {
			t.Fatal(q, e)
		}
		right(t, q, a, most)
		if a.End != api.Open && (a.End == api.Sat) != brute(q) {
			t.Fatal(q, a)
		}
		b, _ := Solve(q, most)
		if a.End != b.End || a.Conflicts != b.Conflicts || !slices.Equal(a.Truths, b.Truths) || !slices.EqualFunc(a.Proof, b.Proof, slices.Equal[[]int]) {
			t.Fatal(q)
		}
		ends[a.End]++
	}
	if ends[api.Sat] < 100 || ends[api.Unsat] < 100 || ends[api.Open] < 100 {
		t.Error(ends)
	}
}

// P15.2, P15.3: long searches, in which much is forgotten and begun anew, end.
func TestLong(t *testing.T) {
	for n := 2; n < 9; n++ {
		a, _ := Solve(holes(n), 1<<30)
		if a.End != api.Unsat {
			t.Fatal(n, a.End)
		}
		right(t, holes(n), a, 1<<30)
	}
	r := rand.New(rand.NewSource(25))
	for range 5 {
		q := api.Question{Vars: 150}
		for len(q.Clauses) < 640 {
			c := []int{1 + r.Intn(150), 1 + r.Intn(150), 1 + r.Intn(150)}
			for i := range c {
				if r.Intn(2) == 0 {
					c[i] = -c[i]
				}
			}
			q.Clauses = append(q.Clauses, c)
		}
		a, _ := Solve(q, 1<<30)
		right(t, q, a, 1<<30)
		if a.End == api.Open {
			t.Fatal("open")
		}
	}
}

// P15.5: one clause more.
func TestMore(t *testing.T) {
	r := rand.New(rand.NewSource(26))
	for range 5000 {
		q := some(r, 1+r.Intn(6), 1+r.Intn(25))
		all, _ := Solve(q, 1<<30)
		less, _ := Solve(ask(q.Vars, q.Clauses[1:]...), 1<<30)
		if less.End == api.Unsat && all.End != api.Unsat || all.End == api.Sat && less.End != api.Sat {
			t.Fatal(q)
		}
	}
}

// The question that is handed in stays as it was.
func TestUnchanged(t *testing.T) {
	q := ask(3, []int{1, 1, 2}, []int{3, -2}, []int{-1, -3, 2})
	Solve(q, 9)
	if !slices.Equal(q.Clauses[0], []int{1, 1, 2}) || !slices.Equal(q.Clauses[2], []int{-1, -3, 2}) {
		t.Error(q)
	}
}

func TestLuby(t *testing.T) {
	for i, want := range []int{1, 1, 2, 1, 1, 2, 4, 1, 1, 2, 1, 1, 2, 4, 8, 1} {
		if luby(i+1) != want {
			t.Error(i+1, luby(i+1))
		}
	}
}
