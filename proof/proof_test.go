package proof

import (
	"math"
	"math/rand"
	"slices"
	"testing"

	"pomace/api"
)

func ask(vars int, clauses ...[]int) api.Question {
	return api.Question{Vars: vars, Clauses: clauses}
}

// P16.1: which literals are true, and the first clause without one.
func TestHolds(t *testing.T) {
	for i, w := range []struct {
		q      api.Question
		truths []bool
		want   int
	}{
		{ask(0), nil, -1}, {ask(2, []int{1}, []int{-2}), []bool{true, false}, -1}, {ask(2, []int{1}, []int{-2}, []int{2}, []int{}), []bool{true, false}, 2}, {ask(0, []int{}), nil, 0}, {ask(0, []int{0}), []bool{true}, 0},
		{ask(0, []int{5}), []bool{true}, 0}, {ask(0, []int{-5}), []bool{true}, -1}, {ask(0, []int{math.MinInt}), []bool{true}, -1}, {ask(0, []int{math.MaxInt}), []bool{true}, 0}, {ask(9, []int{-1}), nil, -1}, {ask(1, []int{1, 1}, []int{-1, 1}), []bool{true, true, true}, -1},
	} {
		if got := Holds(w.q, w.truths); got != w.want {
			t.Error(i, got)
		}
	}
}

// P16.2: what follows by units.
func TestFollows(t *testing.T) {
	l := [][]int{{1, 2}, {-1, 2}}
	for i, w := range []struct {
		clauses [][]int
		c       []int
		want    bool
	}{
		{l, []int{2}, true}, {l, []int{1}, false}, {l, []int{}, false}, {l, []int{1, 2}, true}, {l, []int{2, 1, 7}, true}, {l, []int{3, -3}, true}, {nil, []int{1, -1}, true}, {nil, []int{1}, false}, {nil, nil, false},
		{[][]int{{}}, nil, true}, {[][]int{{0, 0}}, []int{5}, true}, {[][]int{{0, 4, 4}}, []int{4}, true}, {[][]int{{0, 4}}, []int{-4}, false}, {nil, []int{0}, false}, {[][]int{{1}, {-1}}, nil, true}, {[][]int{{1}, {-1, 2}, {-2, 3}, {-3}}, nil, true},
		{[][]int{{1}, {-1, 2}, {-2, 3}}, []int{3}, true}, {[][]int{{1}, {-1, 2}, {-2, 3}}, []int{-3}, false}, {[][]int{{1, -1}}, nil, false}, {[][]int{{1, -1, 2}}, []int{2}, false}, {[][]int{{1, 2}, {1, -2}, {-1, 2}, {-1, -2}}, nil, false},
		{[][]int{{math.MinInt}}, []int{math.MinInt}, true}, {[][]int{{math.MinInt, 3}, {-3}}, []int{math.MinInt}, true}, {[][]int{{math.MinInt}, {math.MaxInt}, {-math.MaxInt}}, nil, true}, {[][]int{{math.MinInt}}, []int{math.MaxInt}, false},
		{[][]int{{1, 1}, {-1, -1, 2, 2}}, []int{2}, true},
	} {
		if got := Follows(w.clauses, w.c); got != w.want {
			t.Error(i, got)
		}
	}
}

// naive: P16.2, word by word.
func naive(clauses [][]int, c []int) bool {
	taken := map[int]bool{}
	for _, n := range c {
		if n != 0 {
			taken[-n] = true
		}
	}
	for {
		for n := range taken {
			if taken[-n] {
				return true
			}
		}
		again := false
		for _, d := range clauses {
			open := map[int]bool{}
			for _, n := range d {
				if n != 0 && !taken[-n] {
					open[n] = true
				}
			}
			if len(open) == 0 {
				return true
			}
			for n := range open {
				if len(open) == 1 && !taken[n] {
					taken[n], again = true, true
				}
			}
		}
		if !again {
			return false
		}
	}
}

func some(r *rand.Rand, vars, clauses int) [][]int {
	var l [][]int
	for range r.Intn(clauses + 1) {
		var c []int
		for range 1 + r.Intn(4) {
			c = append(c, r.Intn(2*vars+1)-vars)
		}
		l = append(l, c)
	}
	return l
}

// P16.2, P16.6: as word by word; more clauses let no less follow, and what stands there follows.
func TestAsSaid(t *testing.T) {
	r := rand.New(rand.NewSource(27))
	hits := 0
	for range 50000 {
		l := some(r, 5, 12)
		var d []int
		for range r.Intn(4) {
			d = append(d, r.Intn(11)-5)
		}
		got := Follows(l, d)
		if got != naive(l, d) {
			t.Fatal(l, d, got)
		}
		if got {
			hits++
			if !Follows(append(some(r, 5, 3), l...), d) {
				t.Fatal(l, d)
			}
		}
		if len(l) > 0 && !Follows(l, l[r.Intn(len(l))]) {
			t.Fatal(l)
		}
	}
	if hits < 1000 {
		t.Error(hits)
	}
}

// P16.3: proofs, right and wrong.
func TestCheck(t *testing.T) {
	q := ask(2, []int{1, 2}, []int{-1, 2}, []int{-2})
	for i, w := range []struct {
		q     api.Question
		proof [][]int
		want  int
	}{
		{q, [][]int{{2}, {}}, -1}, {q, [][]int{{}}, -1}, {q, nil, 0}, {q, [][]int{{2}}, 1}, {q, [][]int{{2}, {}, {1}}, 3}, {q, [][]int{{2}, {}, {}}, -1}, {q, [][]int{{7}, {}}, -1},
		{ask(2, []int{1, 2}, []int{-1, 2}), [][]int{{2}, {1}, {}}, 1}, {ask(2, []int{1, 2}, []int{-1, 2}), [][]int{{1}, {}}, 0}, {ask(2, []int{1, 2}, []int{-1, 2}), [][]int{{2}, {}}, 1},
		{ask(2, []int{1, 2}, []int{-1, 2}, []int{1, -2}, []int{-1, -2}), [][]int{{}}, 0}, {ask(2, []int{1, 2}, []int{-1, 2}, []int{1, -2}, []int{-1, -2}), [][]int{{2}, {}}, -1},
	} {
		if got := Check(w.q, w.proof); got != w.want {
			t.Error(i, got)
		}
	}
}

// P16.3: proofs at random, clause by clause as Follows says.
func TestCheckAll(t *testing.T) {
	r := rand.New(rand.NewSource(28))
	for range 20000 {
		l, p := some(r, 4, 12), some(r, 4, 4)
		if r.Intn(2) == 0 {
			p = append(p, nil)
		}
		want := -1
		for i, c := range p {
			if !naive(append(slices.Clone(l), p[:i]...), c) {
				want = i
				break
			}
		}
		if want < 0 && (len(p) == 0 || len(p[len(p)-1]) > 0) {
			want = len(p)
		}
		if got := Check(ask(4, l...), p); got != want {
			t.Fatal(l, p, got, want)
		}
	}
}

// P16.4: right answers.
func TestRight(t *testing.T) {
	yes, no := ask(1, []int{1}), ask(1, []int{1}, []int{-1})
	empty := [][]int{{}}
	for i, w := range []struct {
		q    api.Question
		a    api.Answer
		want bool
	}{
		{yes, api.Answer{End: api.Sat, Truths: []bool{true}}, true}, {yes, api.Answer{End: api.Sat, Truths: []bool{false}}, false}, {yes, api.Answer{End: api.Sat, Truths: []bool{true, true}}, false}, {yes, api.Answer{End: api.Sat}, false},
		{yes, api.Answer{End: api.Sat, Truths: []bool{true}, Proof: empty}, false}, {ask(0), api.Answer{End: api.Sat}, true}, {ask(-1), api.Answer{End: api.Sat}, false},
		{no, api.Answer{End: api.Unsat, Proof: empty}, true}, {no, api.Answer{End: api.Unsat}, false}, {no, api.Answer{End: api.Unsat, Proof: empty, Truths: []bool{true}}, false}, {yes, api.Answer{End: api.Unsat, Proof: empty}, false},
		{yes, api.Answer{End: api.Open, Conflicts: 7}, true}, {yes, api.Answer{End: api.Open, Truths: []bool{true}}, false}, {yes, api.Answer{End: api.Open, Proof: empty}, false}, {yes, api.Answer{Truths: []bool{true}}, false}, {yes, api.Answer{End: 4}, false}, {yes, api.Answer{}, false},
	} {
		if Right(w.q, w.a) != w.want {
			t.Error(i)
		}
	}
}

// P16.5: what follows by units is true wherever all clauses are.
func TestSound(t *testing.T) {
	r := rand.New(rand.NewSource(29))
	for range 20000 {
		l := some(r, 4, 8)
		c := []int{r.Intn(9) - 4, r.Intn(9) - 4}
		if !Follows(l, c) {
			continue
		}
		for bits := range 16 {
			truths := []bool{bits&1 > 0, bits&2 > 0, bits&4 > 0, bits&8 > 0}
			if Holds(ask(4, l...), truths) < 0 && Holds(ask(4, c), truths) >= 0 {
				t.Fatal(l, c)
			}
		}
	}
}
