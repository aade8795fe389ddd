package sat

import (
	"pomace/api"
)

// When what was learned is forgotten, and when the search begins anew.
const (
	firstKept   = 2000
	moreKept    = 500
	restartUnit = 64
)

// How the weight of what conflicts grows from conflict to conflict, by a part of itself, and when all weights are made smaller.
const (
	firstStep = 1 << 10
	growth    = 4
	tooHeavy  = 1 << 58
	lighter   = 40
)

// clause is a clause; its first two literals are watched. Glue tells of a learned one of how many levels its literals were.
type clause struct {
	lits    []int
	learned bool
	gone    bool
	glue    int
}

// solver looks for truths. A literal is twice its variable (from 0 on), and one more if it is the variable's other one; so lit>>1 is the variable, and lit^1 the other literal.
type solver struct {
	vars      int
	most      int
	conflicts int
	watch     [][]*clause
	value     []int // of each literal: 1 it is true, -1 it is false, 0 neither yet
	level     []int
	reason    []*clause
	trail     []int
	marks     []int // where on the trail each level begins
	head      int   // how much of the trail was gone on from
	weight    []int
	step      int
	phase     []int // of each variable: the literal that it was last
	seen      []bool
	learned   []*clause
	kept      int
	proof     [][]int
}

// newSolver makes a solver without clauses.
func newSolver(vars, most int) *solver {
	s := &solver{
		vars: vars, most: most,
		watch: make([][]*clause, vars<<1), value: make([]int, vars<<1),
		level: make([]int, vars), reason: make([]*clause, vars), weight: make([]int, vars), step: firstStep,
		phase: make([]int, vars), seen: make([]bool, vars), kept: firstKept,
	}
	for v := range vars {
		s.phase[v] = v<<1 | 1
	}
	return s
}

// inner gives the literal of a number.
func inner(n int) int {
	if n < 0 {
		return (-n-1)<<1 | 1
	}
	return (n - 1) << 1
}

// outer gives the number of a literal.
func outer(lit int) int {
	if lit&1 == 1 {
		return -(lit>>1 + 1)
	}
	return lit>>1 + 1
}

// distinct gives the different literals of a clause; false, if it has both of a variable.
func (s *solver) distinct(c []int) ([]int, bool) {
	var lits []int
	there := make([]bool, s.vars<<1)
	for _, n := range c {
		lit := inner(n)
		if there[lit^1] {
			return nil, false
		}
		if !there[lit] {
			there[lit] = true
			lits = append(lits, lit)
		}
	}
	return lits, true
}

// load takes the clauses; it answers how the search ends, if it ends by this alone.
func (s *solver) load(clauses [][]int) int {
	var single []int
	for _, c := range clauses {
		lits, ok := s.distinct(c)
		switch {
		case !ok:
		case len(lits) == 1:
			single = append(single, lits[0])
		default:
			s.attach(&clause{lits: lits})
		}
	}
	for _, lit := range single {
		if s.value[lit] < 0 {
			return s.conflict()
		}
		s.assign(lit, nil)
	}
	return 0
}

// conflict counts a conflict of what follows from the clauses alone, and tells how the search ends by it.
func (s *solver) conflict() int {
	s.conflicts++
	if s.conflicts > s.most {
		return api.Open
	}
	return api.Unsat
}

// attach has the clause's first two literals watched.
func (s *solver) attach(c *clause) {
	for _, lit := range c.lits[:2] {
		s.watch[lit] = append(s.watch[lit], c)
	}
}

// assign makes a literal true, if it isn't, by reason of a clause.
func (s *solver) assign(lit int, by *clause) {
	if s.value[lit] != 0 {
		return
	}
	v := lit >> 1
	s.value[lit], s.value[lit^1] = 1, -1
	s.level[v], s.reason[v], s.phase[v] = len(s.marks), by, lit
	s.trail = append(s.trail, lit)
}

// propagate takes all that follows by units; it answers a clause that is false, if there is one.
func (s *solver) propagate() *clause {
	for s.head < len(s.trail) {
		lit := s.trail[s.head] ^ 1
		s.head++
		if c := s.visit(lit); c != nil {
			return c
		}
	}
	return nil
}

// visit goes through the clauses that watch a literal that is false now.
func (s *solver) visit(lit int) *clause {
	list := s.watch[lit]
	keep := list[:0]
	for i, c := range list {
		if s.moved(c, lit) {
			continue
		}
		keep = append(keep, c)
		first := c.lits[0]
		if s.value[first] < 0 {
			s.watch[lit] = append(keep, list[i+1:]...)
			return c
		}
		s.assign(first, c)
	}
	s.watch[lit] = keep
	return nil
}

// moved has another literal of a clause watched in the place of one that is false, if it must and can.
func (s *solver) moved(c *clause, lit int) bool {
	if c.lits[0] == lit {
		c.lits[0], c.lits[1] = c.lits[1], c.lits[0]
	}
	if s.value[c.lits[0]] > 0 {
		return false
	}
	for k := 2; k < len(c.lits); k++ {
		if other := c.lits[k]; s.value[other] >= 0 {
			c.lits[1], c.lits[k] = other, lit
			s.watch[other] = append(s.watch[other], c)
			return true
		}
	}
	return false
}

// cancel goes back to a level.
func (s *solver) cancel(level int) {
	if level >= len(s.marks) {
		return
	}
	from := s.marks[level]
	for _, lit := range s.trail[from:] {
		s.value[lit], s.value[lit^1] = 0, 0
		s.reason[lit>>1] = nil
	}
	s.trail = s.trail[:from]
	s.marks = s.marks[:level]
	s.head = from
}

// decide makes the heaviest variable that isn't settled what it was last; false, if all are settled.
func (s *solver) decide() bool {
	best := -1
	for v := range s.vars {
		if s.value[v<<1] == 0 && (best < 0 || s.weight[v] > s.weight[best]) {
			best = v
		}
	}
	if best < 0 {
		return false
	}
	s.marks = append(s.marks, len(s.trail))
	s.assign(s.phase[best], nil)
	return true
}

// search goes on till there are truths, or none, or too many conflicts.
func (s *solver) search() int {
	round, left := 1, restartUnit
	end := api.Sat
conflicts:
	for {
		if c := s.propagate(); c != nil {
			if len(s.marks) == 0 {
				end = s.conflict()
				break conflicts
			}
			s.conflicts++
			if s.conflicts > s.most {
				end = api.Open
				break conflicts
			}
			s.learn(c)
			left--
			continue
		}
		if left <= 0 {
			round++
			left = restartUnit * luby(round)
			s.cancel(0)
		}
		s.forget()
		if !s.decide() {
			break conflicts
		}
	}
	return end
}

// luby gives the number i, from 1 on, of the row 1 1 2 1 1 2 4 ..: how long to go on before beginning anew.
func luby(i int) int {
	for size := 1; ; size = size<<1 | 1 {
		if i == size {
			return (size + 1) >> 1
		}
		if i < size {
			return luby(i - size>>1)
		}
	}
}
