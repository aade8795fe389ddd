package proof

// checker tells what follows from clauses by units. A literal is twice its variable's number, and one more if it is below 0; so lit^1 is the other one. What follows from the clauses alone stays taken.
type checker struct {
	number map[uint]int     // of each variable
	taken  map[int]struct{} // the literals that are true
	watch  map[int][]int    // of each literal the clauses that it is one of the first two of
	list   [][]int
	trail  []int // the literals that are true, in the order in which they were taken
	head   int   // how many of these were gone on from
	broken bool  // the clauses alone can't be true
}

// newChecker makes a checker of clauses.
func newChecker(clauses [][]int) *checker {
	k := &checker{number: make(map[uint]int), taken: make(map[int]struct{}), watch: make(map[int][]int)}
	for _, c := range clauses {
		k.add(c)
	}
	return k
}

// literal gives the literal of a number but 0.
func (k *checker) literal(n int) int {
	v, below := uint(n), 0
	if n < 0 {
		v, below = -v, 1
	}
	i, ok := k.number[v]
	if !ok {
		i = len(k.number)
		k.number[v] = i
	}
	return i<<1 | below
}

// literals gives the different literals of a clause; 0 is none, as it is never true.
func (k *checker) literals(c []int) []int {
	var lits []int
	there := make(map[int]struct{}, len(c))
	for _, n := range c {
		if n == 0 {
			continue
		}
		lit := k.literal(n)
		if _, twice := there[lit]; !twice {
			there[lit] = struct{}{}
			lits = append(lits, lit)
		}
	}
	return lits
}

// isTaken tells whether a literal is true.
func (k *checker) isTaken(lit int) bool {
	_, ok := k.taken[lit]
	return ok
}

// take makes a literal true.
func (k *checker) take(lit int) {
	if !k.isTaken(lit) {
		k.taken[lit] = struct{}{}
		k.trail = append(k.trail, lit)
	}
}

// add takes a clause, and what follows from it.
func (k *checker) add(c []int) {
	lits := k.literals(c)
	front := 0 // how many literals that aren't false stand in front
search:
	for i, lit := range lits {
		if !k.isTaken(lit ^ 1) {
			lits[front], lits[i] = lits[i], lits[front]
			front++
			if front == 2 {
				break search
			}
		}
	}
	switch front {
	case 0:
		k.broken = true
	case 1:
		k.take(lits[0])
		k.broken = k.broken || !k.goOn()
	default:
		for _, lit := range lits[:2] {
			k.watch[lit] = append(k.watch[lit], len(k.list))
		}
		k.list = append(k.list, lits)
	}
}

// follows tells whether a clause follows; it leaves nothing taken.
func (k *checker) follows(c []int) bool {
	if k.broken {
		return true
	}
	from := len(k.trail)
	found := false
	for _, lit := range k.literals(c) {
		found = found || k.isTaken(lit)
		k.take(lit ^ 1)
	}
	found = found || !k.goOn()
	for _, lit := range k.trail[from:] {
		delete(k.taken, lit)
	}
	k.trail = k.trail[:from]
	k.head = from
	return found
}

// goOn takes all that follows by units; false, if a clause is false then.
func (k *checker) goOn() bool {
	for k.head < len(k.trail) {
		lit := k.trail[k.head] ^ 1
		k.head++
		if !k.visit(lit) {
			return false
		}
	}
	return true
}

// visit goes through the clauses that watch a literal that is false now; false, if one of them is.
func (k *checker) visit(lit int) bool {
	list := k.watch[lit]
	kept := list[:0]
	for i, n := range list {
		c := k.list[n]
		if c[0] == lit {
			c[0], c[1] = c[1], c[0]
		}
		if !k.isTaken(c[0]) && k.moved(n) {
			continue
		}
		kept = append(kept, n)
		if k.isTaken(c[0] ^ 1) {
			k.watch[lit] = append(kept, list[i+1:]...)
			return false
		}
		k.take(c[0])
	}
	k.watch[lit] = kept
	return true
}

// moved has another literal of the clause n watched in the place of its second one, if one isn't false.
func (k *checker) moved(n int) bool {
	c := k.list[n]
	for i := 2; i < len(c); i++ {
		if !k.isTaken(c[i] ^ 1) {
			c[1], c[i] = c[i], c[1]
			k.watch[c[1]] = append(k.watch[c[1]], n)
			return true
		}
	}
	return false
}
