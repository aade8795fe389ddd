package sat

import (
	"cmp"
	"slices"
)

// bump makes a variable heavier.
func (s *solver) bump(v int) {
	s.weight[v] += s.step
	if s.weight[v] <= tooHeavy {
		return
	}
	for u := range s.vars {
		s.weight[u] >>= lighter
	}
	s.step = max(s.step>>lighter, firstStep)
}

// learn takes a clause from a conflict, goes back as far as it says, and takes what follows from it.
func (s *solver) learn(conflict *clause) {
	lits := s.lean(s.analyze(conflict))
	for v := range s.vars {
		s.seen[v] = false
	}
	s.step += s.step >> growth
	proved := make([]int, 0, len(lits))
	for _, lit := range lits {
		proved = append(proved, outer(lit))
	}
	s.proof = append(s.proof, proved)
	if len(lits) == 1 {
		s.cancel(0)
		s.assign(lits[0], nil)
		return
	}
	c := &clause{lits: lits, learned: true, glue: s.glue(lits)}
	// The second literal watched must be of the highest level but one, so that going back frees it last.
	high := 1
	for k := 2; k < len(lits); k++ {
		if s.level[lits[k]>>1] > s.level[lits[high]>>1] {
			high = k
		}
	}
	lits[1], lits[high] = lits[high], lits[1]
	s.cancel(s.level[lits[1]>>1])
	s.attach(c)
	s.learned = append(s.learned, c)
	s.assign(lits[0], c)
}

// analyze goes back from a conflict to where one literal of its level leads to it; that one's other literal is the first of the answer.
func (s *solver) analyze(c *clause) []int {
	lits := []int{0}
	open := 0 // how many literals of this level are still to be followed
	meet := func(lit int) {
		v := lit >> 1
		if s.seen[v] || s.level[v] == 0 {
			return
		}
		s.seen[v] = true
		s.bump(v)
		if s.level[v] == len(s.marks) {
			open++
		} else {
			lits = append(lits, lit)
		}
	}
	at := len(s.trail) - 1
	for {
		for _, lit := range c.lits {
			meet(lit)
		}
		for !s.seen[s.trail[at]>>1] {
			at--
		}
		lit := s.trail[at]
		at--
		open--
		if open == 0 {
			lits[0] = lit ^ 1
			return lits
		}
		c = s.reason[lit>>1]
	}
}

// lean leaves out literals that follow from the others: those all of whose reason is among what was seen.
func (s *solver) lean(lits []int) []int {
	follows := func(lit int) bool {
		c := s.reason[lit>>1]
		return c != nil && !slices.ContainsFunc(c.lits, func(other int) bool {
			return !s.seen[other>>1] && s.level[other>>1] > 0
		})
	}
	kept := lits[:1]
	for _, lit := range lits[1:] {
		if !follows(lit) {
			kept = append(kept, lit)
		}
	}
	return kept
}

// glue tells of how many levels the literals are.
func (s *solver) glue(lits []int) int {
	levels := make([]int, 0, len(lits))
	for _, lit := range lits {
		levels = append(levels, s.level[lit>>1])
	}
	slices.Sort(levels)
	return len(slices.Compact(levels))
}

// forget forgets the worse half of what was learned, if that is too much; the next time it may be more, so that the search ends.
func (s *solver) forget() {
	if len(s.learned) <= s.kept {
		return
	}
	s.kept += moreKept
	slices.SortStableFunc(s.learned, func(a, b *clause) int {
		return cmp.Or(cmp.Compare(a.glue, b.glue), cmp.Compare(len(a.lits), len(b.lits)))
	})
	half := len(s.learned) >> 1
	kept := s.learned[:half]
	for _, c := range s.learned[half:] {
		if s.reason[c.lits[0]>>1] == c {
			kept = append(kept, c)
		} else {
			c.gone = true
		}
	}
	s.learned = kept
	for lit, list := range s.watch {
		s.watch[lit] = slices.DeleteFunc(list, func(c *clause) bool { return c.gone })
	}
}
