package trim

// cover is how far step 6 came. The steps behind step 4 only let clauses go, so no pair comes up that was gone past.
type cover struct {
	begun  bool
	first  int // the clause that others are held against
	lit    int // one of its literals, that stands in the fewest clauses
	next   int // which of these clauses comes next
	member []bool
	signs  []uint64 // of each clause a bit for each of its literals, some of which share one
}

// sign gives the bits of a clause's literals.
func (w *work) sign(c []int) uint64 {
	var bits uint64
	for _, n := range c {
		bits |= 1 << (uint(w.at(n)) % 64)
	}
	return bits
}

// covered is step 6.
func (w *work) covered() bool {
	p := &w.cover
	if !p.begun {
		p.begun = true
		p.member = make([]bool, 2*w.vars+1)
		for _, c := range w.clauses {
			p.signs = append(p.signs, w.sign(c))
		}
		w.hold(0)
	}
	for p.first < len(w.clauses) {
		if k, ok := w.wider(); ok {
			w.drop(k)
			return true
		}
		w.hold(p.first + 1)
	}
	return false
}

// hold goes on to the next clause from i on that is there.
func (w *work) hold(i int) {
	p := &w.cover
	w.mark(p.first, false)
	for i < len(w.clauses) && w.gone[i] {
		i++
	}
	p.first, p.next = i, 0
	if i == len(w.clauses) {
		return
	}
	w.mark(i, true)
	p.lit = w.clauses[i][0]
	for _, n := range w.clauses[i] {
		if len(w.stands[w.at(n)]) < len(w.stands[w.at(p.lit)]) {
			p.lit = n
		}
	}
}

// mark says of the literals of a clause whether they are its own.
func (w *work) mark(i int, is bool) {
	if i < len(w.clauses) {
		for _, n := range w.clauses[i] {
			w.cover.member[w.at(n)] = is
		}
	}
}

// wider gives the next clause that all the literals of the first one stand in.
func (w *work) wider() (int, bool) {
	p := &w.cover
	if w.gone[p.first] {
		return 0, false
	}
	list := w.stands[w.at(p.lit)]
	for p.next < len(list) {
		k := list[p.next]
		p.next++
		if !w.gone[k] && w.covers(p.first, k) {
			return k, true
		}
	}
	return 0, false
}

// covers tells whether all the literals of the clause i, which are marked, stand in the clause k; of two with the same ones only the one ahead covers the other.
func (w *work) covers(i, k int) bool {
	c, d := w.clauses[i], w.clauses[k]
	if i == k || len(c) > len(d) || len(c) == len(d) && k < i || w.cover.signs[i]&^w.cover.signs[k] != 0 {
		return false
	}
	common := 0
	for _, n := range d {
		if w.cover.member[w.at(n)] {
			common++
		}
	}
	return common == len(c)
}
