package trim

import (
	"slices"

	"pomace/api"
)

// work makes a question smaller, step by step. Of each literal it knows in which clauses it stood when the first two steps were done, and how many of these there still are with it.
type work struct {
	vars    int
	clauses [][]int
	gone    []bool
	plain   bool // the first two steps are done: no other one makes anything for them
	ended   bool
	fixed   []int
	singles int // how many literals were fixed by step 4; all others were behind them
	stands  [][]int
	count   []int
	cover   cover
}

// newWork begins with a question.
func newWork(q api.Question) *work {
	w := &work{vars: q.Vars, gone: make([]bool, len(q.Clauses)), stands: make([][]int, 2*q.Vars+1), count: make([]int, 2*q.Vars+1)}
	for _, c := range q.Clauses {
		w.clauses = append(w.clauses, slices.Clone(c))
	}
	return w
}

// run takes the first step that there is, again and again.
func (w *work) run() {
	steps := []func() bool{w.twice, w.both, w.empty, w.single, w.lone, w.covered}
	try := func(step func() bool) bool { return step() }
	for !w.ended && slices.ContainsFunc(steps, try) {
	}
}

// trimmed gives what is left, and what was fixed.
func (w *work) trimmed() api.Trimmed {
	t := api.Trimmed{Question: api.Question{Vars: w.vars}, Fixed: w.fixed}
	if w.ended {
		t.Question.Clauses = [][]int{{}}
		return t
	}
	for i, c := range w.clauses {
		if !w.gone[i] {
			t.Question.Clauses = append(t.Question.Clauses, c)
		}
	}
	return t
}

// at gives a literal's place in lists of all literals.
func (w *work) at(n int) int {
	return n + w.vars
}

// without gives a clause without its literal number k.
func without(c []int, k int) []int {
	return append(c[:k:k], c[k+1:]...)
}

// twice is step 1, for all clauses at once: it makes no difference in which order.
func (w *work) twice() bool {
	found := false
	if w.plain {
		return found
	}
	seen := make([]int, 2*w.vars+1)
	for i, c := range w.clauses {
		kept := c[:0]
		for _, n := range c {
			if seen[w.at(n)] != i+1 {
				seen[w.at(n)] = i + 1
				kept = append(kept, n)
			}
		}
		found = found || len(kept) < len(c)
		w.clauses[i] = kept
	}
	return found
}

// both is step 2, for all clauses at once; it learns where literals stand, too.
func (w *work) both() bool {
	if w.plain {
		return false
	}
	w.plain = true
	found := false
	seen := make([]int, 2*w.vars+1)
	for i, c := range w.clauses {
		for _, n := range c {
			seen[w.at(n)] = i + 1
			w.gone[i] = w.gone[i] || seen[w.at(-n)] == i+1
		}
		if w.gone[i] {
			found = true
			continue
		}
		for _, n := range c {
			w.stands[w.at(n)] = append(w.stands[w.at(n)], i)
			w.count[w.at(n)]++
		}
	}
	return found
}

// first gives the number of the first clause of so many literals.
func (w *work) first(size int) (int, bool) {
	for i, c := range w.clauses {
		if len(c) == size && !w.gone[i] {
			return i, true
		}
	}
	return 0, false
}

// empty is step 3.
func (w *work) empty() bool {
	_, w.ended = w.first(0)
	return w.ended
}

// single is step 4.
func (w *work) single() bool {
	i, ok := w.first(1)
	if !ok {
		return false
	}
	n := w.clauses[i][0]
	w.fix(n)
	w.singles++
	for _, k := range w.stands[w.at(-n)] {
		if at := slices.Index(w.clauses[k], -n); at >= 0 && !w.gone[k] {
			w.clauses[k] = without(w.clauses[k], at)
			w.count[w.at(-n)]--
		}
	}
	return true
}

// fix fixes a literal; the clauses that have it go.
func (w *work) fix(n int) {
	w.fixed = append(w.fixed, n)
	for _, k := range w.stands[w.at(n)] {
		w.drop(k)
	}
}

// drop lets a clause go.
func (w *work) drop(i int) {
	if w.gone[i] {
		return
	}
	w.gone[i] = true
	for _, n := range w.clauses[i] {
		w.count[w.at(n)]--
	}
}

// lone is step 5.
func (w *work) lone() bool {
	for v := 1; v <= w.vars; v++ {
		is, not := w.count[w.at(v)] > 0, w.count[w.at(-v)] > 0
		if is != not {
			if not {
				v = -v
			}
			w.fix(v)
			return true
		}
	}
	return false
}
