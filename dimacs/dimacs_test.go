package dimacs

import (
	"math/rand"
	"slices"
	"strconv"
	"strings"
	"testing"

	"pomace/api"
)

func same(a, b [][]int) bool { return slices.EqualFunc(a, b, slices.Equal[[]int]) }

func ask(vars int, clauses ...[]int) api.Question {
	return api.Question{Vars: vars, Clauses: clauses}
}

// P28.1, P28.2: questions that are read, and as they are printed.
func TestQuestions(t *testing.T) {
	if got := Print(ask(2, []int{1, -2}, []int{2})); got != "p cnf 2 2\n1 -2 0\n2 0\n" {
		t.Errorf("%q", got)
	}
	if got := Print(ask(0, nil)); got != "p cnf 0 1\n0\n" {
		t.Errorf("%q", got)
	}
	for s, want := range map[string]api.Question{
		"p cnf 0 0": ask(0), "p cnf 2 2\n1 -2 0\n2 0\n": ask(2, []int{1, -2}, []int{2}), "c x\n\n \tc\n p\tcnf  2 2 \r\n\r\n1\n-2\ncomment 0\n0 2 0": ask(2, []int{1, -2}, []int{2}), "p cnf 3 2\n0 0": ask(3, nil, nil), "p cnf 1 1\n1 -1 1 0\n\nc": ask(1, []int{1, -1, 1}),
		"p cnf 1024 0\n": ask(1024),
	} {
		if q, e, line := Parse(s); e != api.OK || line != 0 || q.Vars != want.Vars || !same(q.Clauses, want.Clauses) {
			t.Errorf("%q: %v %d %d", s, q, e, line)
		}
	}
}

// P28.2: each error, and its line.
func TestQuestionErrors(t *testing.T) {
	for _, w := range []struct {
		s    string
		e    api.Errno
		line int
	}{
		{"", api.ErrArg, 2}, {"\n", api.ErrArg, 3}, {"c x\nc y", api.ErrArg, 3}, {"1 0", api.ErrArg, 1}, {"p cnf 1", api.ErrArg, 1}, {"\np cnf 1 1 1", api.ErrArg, 2}, {"p dnf 1 1", api.ErrArg, 1}, {"q cnf 1 1", api.ErrArg, 1}, {"p cnf -1 1", api.ErrArg, 1}, {"p cnf 1 -1", api.ErrArg, 1},
		{"p cnf 01 1", api.ErrArg, 1}, {"p cnf 1 x", api.ErrArg, 1}, {"pcnf 1 1", api.ErrArg, 1}, {"p cnf 1000000000 0", api.ErrArg, 1}, {"p cnf 999999999 0", api.ErrBig, 0}, {"p cnf 1025 1\n1 0", api.ErrBig, 0}, {"p cnf 1025 1\n1", api.ErrArg, 3},
		{"p cnf 1 1\n-0 0", api.ErrArg, 2}, {"p cnf 1 1\n01 0", api.ErrArg, 2}, {"p cnf 1 1\n+1 0", api.ErrArg, 2}, {"p cnf 1 1\n- 0", api.ErrArg, 2}, {"p cnf 1 1\n1 00", api.ErrArg, 2}, {"p cnf 1 1\np cnf 1 1\n1 0", api.ErrArg, 2}, {"p cnf 1 1\n1 0x", api.ErrArg, 2}, {"p cnf 1 1\n1\v0", api.ErrArg, 2},
		{"p cnf 1 1\n2 0", api.ErrArg, 2}, {"p cnf 1 1\n1\n\n-2 0", api.ErrArg, 4}, {"p cnf 1 1\n1 0\n\n0", api.ErrArg, 4}, {"p cnf 1 1\n1 0\n1\n0", api.ErrArg, 3}, {"p cnf 1 0\n1 0", api.ErrArg, 2}, {"p cnf 1 1", api.ErrArg, 2}, {"p cnf 1 1\n", api.ErrArg, 3}, {"p cnf 1 1\n1", api.ErrArg, 3}, {"p cnf 1 2\n1 0\n\n", api.ErrArg, 5},
		{"p cnf 1 16385\n" + strings.Repeat("0 ", 16385), api.ErrBig, 0}, {"p cnf 1 16385\n" + strings.Repeat("0 ", 16385) + "0", api.ErrArg, 2}, {"p cnf 1 1\n" + strings.Repeat("1 ", 2049) + "0", api.ErrBig, 0}, {"p cnf 1 1\n-1000000000 0", api.ErrArg, 2},
	} {
		if q, e, line := Parse(w.s); e != w.e || line != w.line || q.Vars != 0 || len(q.Clauses) > 0 {
			t.Errorf("%.40q: %d %d", w.s, e, line)
		}
	}
}

// P28.3: proofs.
func TestProofs(t *testing.T) {
	if got := PrintProof([][]int{{1, -20}, {}}); got != "1 -20 0\n0\n" || PrintProof(nil) != "" {
		t.Errorf("%q", got)
	}
	for s, want := range map[string][][]int{"": nil, "c\n": nil, "1 -20 0\n0\n": {{1, -20}, {}}, "999999999\n0 -999999999 0": {{999999999}, {-999999999}}, strings.Repeat("0 ", api.MaxCls): make([][]int, api.MaxCls)} {
		if l, e, line := ParseProof(s); e != api.OK || line != 0 || !same(l, want) {
			t.Errorf("%.20q: %d %d", s, e, line)
		}
	}
	full := strings.Repeat("0\n", api.MaxCls)
	for _, w := range []struct {
		s    string
		e    api.Errno
		line int
	}{
		{"1", api.ErrArg, 2}, {"p cnf 1 1", api.ErrArg, 1}, {"1 0\nx", api.ErrArg, 2}, {"1000000000 0", api.ErrArg, 1}, {full + "\n1\n0", api.ErrBig, api.MaxCls + 2}, {full + "0", api.ErrBig, api.MaxCls + 1}, {full + "0 x", api.ErrArg, api.MaxCls + 1},
	} {
		if l, e, line := ParseProof(w.s); e != w.e || line != w.line || len(l) > 0 {
			t.Errorf("%.20q: %d %d", w.s, e, line)
		}
	}
}

// P28.4: answers.
func TestAnswers(t *testing.T) {
	for want, a := range map[string]api.Answer{
		"s SATISFIABLE\nv 1 -2 0\n": {End: api.Sat, Truths: []bool{true, false}, Conflicts: 3}, "s SATISFIABLE\nv 0\n": {End: api.Sat}, "s UNSATISFIABLE\n": {End: api.Unsat, Proof: [][]int{{}}}, "s UNKNOWN\n": {End: api.Open},
	} {
		if got := PrintAnswer(a); got != want {
			t.Errorf("%q", got)
		}
		if b, e, line := ParseAnswer(want); e != api.OK || line != 0 || b.End != a.End || !slices.Equal(b.Truths, a.Truths) || len(b.Proof) > 0 || b.Conflicts != 0 {
			t.Errorf("%q: %v", want, b)
		}
	}
	if PrintAnswer(api.Answer{}) != "s UNKNOWN\n" || PrintAnswer(api.Answer{End: 7, Truths: []bool{true}}) != "s UNKNOWN\n" {
		t.Error("others")
	}
	if a, e, _ := ParseAnswer("c\n\n s \t SATISFIABLE\r\nc v\n\n v  -1\t2 0 \n\nc"); e != api.OK || a.End != api.Sat || !slices.Equal(a.Truths, []bool{false, true}) {
		t.Error(a, e)
	}
	for s, want := range map[string]int{
		"": 2, "c\n\n": 4, "s": 1, "s x": 1, "S SATISFIABLE": 1, "s SATISFIABLE x": 1, "\ns UNSATISFIABLE UNKNOWN": 2, "s UNKNOWN\nv 0": 2, "s UNSATISFIABLE\n\nx": 3, "s SATISFIABLE": 2, "s SATISFIABLE\n": 3, "s SATISFIABLE\nv": 2, "s SATISFIABLE\nv 1": 2, "s SATISFIABLE\nv 1 0\nv 0": 3,
		"s SATISFIABLE\nx 0": 2, "s SATISFIABLE\nv 2 0": 2, "s SATISFIABLE\nv 1 1 0": 2, "s SATISFIABLE\nv 1 -1 0": 2, "s SATISFIABLE\nv 1 3 0": 2, "s SATISFIABLE\nv 0 1": 2, "s SATISFIABLE\nv 1 0 0": 2, "s SATISFIABLE\nv 01 0": 2, "v 1 0\ns SATISFIABLE": 1, "s SATISFIABLE\n\nv -0 0": 3,
	} {
		if a, e, line := ParseAnswer(s); e != api.ErrArg || line != want || a.End != 0 || len(a.Truths) > 0 {
			t.Errorf("%q: %v %d %d", s, a, e, line)
		}
	}
}

// P28.5, P28.6: what is printed is parsed as the same; notes, blanks and ends of lines change nothing.
func TestBack(t *testing.T) {
	r := rand.New(rand.NewSource(32))
	for range 3000 {
		q := ask(1 + r.Intn(20))
		for range r.Intn(6) {
			c := []int{}
			for range r.Intn(5) {
				c = append(c, []int{1, -1}[r.Intn(2)]*(1+r.Intn(q.Vars)))
			}
			q.Clauses = append(q.Clauses, c)
		}
		if p, e, _ := Parse(Print(q)); e != api.OK || p.Vars != q.Vars || !same(p.Clauses, q.Clauses) {
			t.Fatal(q, p)
		}
		if l, e, _ := ParseProof(PrintProof(q.Clauses)); e != api.OK || !same(l, q.Clauses) {
			t.Fatal(q, l)
		}
		a := api.Answer{End: 1 + r.Intn(3)}
		for range r.Intn(5) {
			if a.End == api.Sat {
				a.Truths = append(a.Truths, r.Intn(2) == 0)
			}
		}
		if b, e, _ := ParseAnswer(PrintAnswer(a)); e != api.OK || a.End != b.End || !slices.Equal(a.Truths, b.Truths) {
			t.Fatal(a, b)
		}
		var mixed strings.Builder
		mixed.WriteString("c 1 0\n p cnf " + strconv.Itoa(q.Vars) + "\t" + strconv.Itoa(len(q.Clauses)) + "\n")
		for _, w := range strings.Fields(PrintProof(q.Clauses)) {
			mixed.WriteString([]string{"\n", " ", "\t\r", "\nc x\n\n"}[r.Intn(4)] + w)
		}
		if p, e, line := Parse(mixed.String()); e != api.OK || p.Vars != q.Vars || !same(p.Clauses, q.Clauses) {
			t.Fatal(mixed.String(), e, line)
		}
	}
}
