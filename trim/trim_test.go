package trim

import (
	"math"
	"math/rand"
	"slices"
	"testing"

	"pomace/api"
	"pomace/proof"
	"pomace/sat"
)

func same(a, b [][]int) bool { return slices.EqualFunc(a, b, slices.Equal[[]int]) }

func ask(vars int, clauses ...[]int) api.Question {
	return api.Question{Vars: vars, Clauses: clauses}
}

// P29.1: each step, and what is left.
func TestTrim(t *testing.T) {
	for i, w := range []struct {
		q     api.Question
		left  [][]int
		fixed []int
	}{
		{ask(4, []int{1, 2}, []int{-1}, []int{2, 3}, []int{2, 3, 4}), nil, []int{-1, 2}},
		{ask(0), nil, nil},
		{ask(2, []int{1, -2, 1, -2}, []int{-1, 2}), [][]int{{1, -2}, {-1, 2}}, nil},
		{ask(2, []int{1, 2, -1}, []int{2, -1}), nil, []int{-1}},
		{ask(2, []int{1, 2}, []int{}, []int{1}), [][]int{{}}, nil},
		{ask(1, []int{1}, []int{-1}), [][]int{{}}, []int{1}},
		{ask(2, []int{-2}, []int{1}, []int{2, -1}), [][]int{{}}, []int{-2, 1}},
		{ask(3, []int{1, 2}, []int{-1, 3}, []int{-3, -2}), [][]int{{1, 2}, {-1, 3}, {-3, -2}}, nil},
		{ask(3, []int{-3, 2}, []int{3, -2}), [][]int{{-3, 2}, {3, -2}}, nil},
		{ask(3, []int{-2, 3}, []int{2, -3}, []int{1, 2, 3}, []int{-1, 2, 3}), [][]int{{-2, 3}, {2, -3}, {1, 2, 3}, {-1, 2, 3}}, nil},
		{ask(2, []int{1, 2}, []int{2, 1}, []int{-1, -2}), [][]int{{1, 2}, {-1, -2}}, nil},
		{ask(3, []int{1, 2, 3}, []int{-1, -2}, []int{2, 1}, []int{-1, -2, -3}), [][]int{{-1, -2}, {2, 1}}, []int{3}},
		{ask(1, []int{1, 1}), nil, []int{1}},
		{ask(3, []int{3}, []int{-3, 2}, []int{1, -1}, []int{2, 2}), nil, []int{3, 2}},
	} {
		got, e := Trim(w.q)
		if e != api.OK || got.Question.Vars != w.q.Vars || !same(got.Question.Clauses, w.left) || !slices.Equal(got.Fixed, w.fixed) {
			t.Error(i, got, e)
		}
	}
	for i, q := range []api.Question{ask(-1), ask(1, []int{2}), ask(api.MaxVars + 1), ask(0, []int{0})} {
		got, e := Trim(q)
		a, f := Solve(q, -1)
		if want := sat.May(q); e != want || f != want || got.Question.Vars != 0 || len(got.Question.Clauses)+len(got.Fixed) > 0 || a.End != 0 {
			t.Error(i, e, f)
		}
	}
}

// naive: P29.1, word by word.
func naive(q api.Question) api.Trimmed {
	var l [][]int
	for _, c := range q.Clauses {
		l = append(l, slices.Clone(c))
	}
	var fixed []int
	fix := func(n int) {
		fixed = append(fixed, n)
		l = slices.DeleteFunc(l, func(c []int) bool { return slices.Contains(c, n) })
		for i, c := range l {
			l[i] = slices.DeleteFunc(slices.Clone(c), func(m int) bool { return m == -n })
		}
	}
	step := func() bool {
		for _, c := range l {
			for k := range c {
				if at := slices.Index(c, c[k]); at < k {
					i := slices.IndexFunc(l, func(d []int) bool { return &d[:1][0] == &c[0] })
					l[i] = slices.Delete(slices.Clone(c), k, k+1)
					return true
				}
			}
		}
		for i, c := range l {
			for _, n := range c {
				if slices.Contains(c, -n) {
					l = slices.Delete(l, i, i+1)
					return true
				}
			}
		}
		for _, c := range l {
			if len(c) == 0 {
				l = [][]int{{}}
				return false
			}
		}
		for _, c := range l {
			if len(c) == 1 {
				fix(c[0])
				return true
			}
		}
		for v := 1; v <= q.Vars; v++ {
			in := func(n int) bool { return slices.ContainsFunc(l, func(c []int) bool { return slices.Contains(c, n) }) }
			if in(v) != in(-v) {
				if in(-v) {
					v = -v
				}
				fix(v)
				return true
			}
		}
		for i, c := range l {
			for k, d := range l {
				sub := !slices.ContainsFunc(c, func(n int) bool { return !slices.Contains(d, n) })
				if i != k && sub && (len(c) < len(d) || i < k) {
					l = slices.Delete(l, k, k+1)
					return true
				}
			}
		}
		return false
	}
	for step() {
	}
	return api.Trimmed{Question: api.Question{Vars: q.Vars, Clauses: l}, Fixed: fixed}
}

func some(r *rand.Rand) api.Question {
	q := ask(1 + r.Intn(7))
	for range r.Intn(25) {
		var c []int
		for range 1 + r.Intn(4) + r.Intn(2)*r.Intn(2) {
			c = append(c, []int{1, -1}[r.Intn(2)]*(1+r.Intn(q.Vars)))
		}
		q.Clauses = append(q.Clauses, c)
	}
	return q
}

// P29.1, P29.4: the steps as they are said; what is left is trimmed no more.
func TestAsSaid(t *testing.T) {
	r := rand.New(rand.NewSource(33))
	left := 0
	for range 30000 {
		q := some(r)
		got, e := Trim(q)
		want := naive(q)
		if e != api.OK || !same(got.Question.Clauses, want.Question.Clauses) || !slices.Equal(got.Fixed, want.Fixed) || got.Question.Vars != q.Vars {
			t.Fatal(q, got, want)
		}
		again, _ := Trim(got.Question)
		if !same(again.Question.Clauses, got.Question.Clauses) || len(again.Fixed) > 0 {
			t.Fatal(q, again)
		}
		if len(got.Question.Clauses) > 3 {
			left++
		}
	}
	if left < 500 {
		t.Error(left)
	}
}

// P29.2: truths that are grown.
func TestGrow(t *testing.T) {
	fixed := api.Trimmed{Question: ask(4), Fixed: []int{-1, 3, -3, 9, 0, math.MinInt}}
	if got := Grow(fixed, []bool{true, true, true}); !slices.Equal(got, []bool{false, true, false, false}) {
		t.Error(got)
	}
	if got := Grow(fixed, nil); !slices.Equal(got, make([]bool, 4)) {
		t.Error(got)
	}
	if got := Grow(fixed, []bool{true, true, true, true, true}); len(got) != 4 {
		t.Error(got)
	}
	if len(Grow(api.Trimmed{Question: ask(-1), Fixed: []int{1}}, []bool{true})) != 0 {
		t.Error("none")
	}
}

// P29.2: the proofs.
func TestProof(t *testing.T) {
	a, e := Solve(ask(2, []int{-2}, []int{1}, []int{2, -1}), 0)
	if e != api.OK || a.End != api.Unsat || !same(a.Proof, [][]int{{-2}, {1}, {}}) || a.Conflicts != 0 || len(a.Truths) > 0 {
		t.Error(a, e)
	}
	if a, e := Solve(ask(1, []int{1}, []int{-1}), -1); e != api.ErrArg || a.End != 0 {
		t.Error(a, e)
	}
	if a, _ := Solve(ask(1, nil), 0); a.End != api.Unsat || !same(a.Proof, [][]int{{}}) {
		t.Error(a)
	}
}

// P29.3, P29.5: what is left has truths just if the question has; answers are right.
func TestSame(t *testing.T) {
	r := rand.New(rand.NewSource(34))
	ends := map[int]int{}
	for range 20000 {
		q := some(r)
		whole, _ := sat.Solve(q, 1<<30)
		small, _ := Trim(q)
		left, _ := sat.Solve(small.Question, 1<<30)
		if whole.End != left.End || left.End == api.Sat && proof.Holds(q, Grow(small, left.Truths)) >= 0 {
			t.Fatal(q, small)
		}
		most := []int{r.Intn(3), 1 << 30}[r.Intn(2)]
		a, e := Solve(q, most)
		if e != api.OK || !proof.Right(q, a) || a.End != api.Open && a.End != whole.End || a.End == api.Open && a.Conflicts != most+1 {
			t.Fatal(q, a)
		}
		ends[a.End]++
	}
	if ends[api.Sat] < 100 || ends[api.Unsat] < 100 || ends[api.Open] < 20 {
		t.Error(ends)
	}
}
