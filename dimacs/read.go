package dimacs

import (
	"iter"
	"math"
	"strconv"
	"strings"

	"pomace/api"
	"pomace/chars"
)

// mostDigits is how many digits a number has at most.
const mostDigits = 9

// anyVars is for clauses whose variables may be of any number.
const anyVars = math.MaxInt

// fault is what is wrong, and in which line.
type fault struct {
	err  api.Errno
	line int
}

// fail ends the reading.
func fail(e api.Errno, line int) {
	panic(fault{e, line})
}

// caught gives the fault that a panic was.
func caught(wrong any) fault {
	f, ok := wrong.(fault)
	if !ok {
		panic(wrong)
	}
	return f
}

// behind gives the number of the line behind the last one.
func behind(s string) int {
	return strings.Count(s, "\n") + 2
}

// lines goes through the lines that count: their numbers, from 1 on, and their words.
func lines(s string) iter.Seq2[int, []string] {
	return func(yield func(int, []string) bool) {
		line := 0
		for text := range strings.SplitSeq(s, "\n") {
			line++
			words := strings.FieldsFunc(text, func(r rune) bool { return r < 128 && chars.IsBlank(byte(r)) })
			if len(words) == 0 || words[0][0] == 'c' {
				continue
			}
			if !yield(line, words) {
				return
			}
		}
	}
}

// number reads a number.
func number(word string) (int, bool) {
	digits := strings.TrimPrefix(word, "-")
	if digits == "" || len(digits) > mostDigits || digits[0] == '0' && word != "0" {
		return 0, false
	}
	for i := range len(digits) {
		if !chars.IsDigit(digits[i]) {
			return 0, false
		}
	}
	n, _ := strconv.Atoi(word)
	return n, true
}

// numbers reads words that must all be numbers.
func numbers(line int, words []string) []int {
	var list []int
	for _, w := range words {
		n, ok := number(w)
		if !ok {
			fail(api.ErrArg, line)
		}
		list = append(list, n)
	}
	return list
}

// reader takes clauses: with variables up to vars, at most so many; more is the error of one more. The last one is open till a 0 ends it.
type reader struct {
	vars    int
	most    int
	more    api.Errno
	clauses [][]int
	clause  []int
	open    bool
}

// begin takes the first line of a question.
func (r *reader) begin(line int, words []string) {
	if len(words) != 4 || words[0] != "p" || words[1] != "cnf" {
		fail(api.ErrArg, line)
	}
	list := numbers(line, words[2:])
	if list[0] < 0 || list[1] < 0 {
		fail(api.ErrArg, line)
	}
	r.vars, r.most, r.more = list[0], list[1], api.ErrArg
}

// take takes a line of clauses.
func (r *reader) take(line int, words []string) {
	for _, n := range numbers(line, words) {
		if !r.open && len(r.clauses) >= r.most {
			fail(r.more, line)
		}
		if n > r.vars || n < -r.vars {
			fail(api.ErrArg, line)
		}
		if !r.open {
			r.open, r.clause = true, []int{}
		}
		if n == 0 {
			r.clauses = append(r.clauses, r.clause)
			r.open = false
			continue
		}
		r.clause = append(r.clause, n)
	}
}

// parseEnd reads how a search ended.
func parseEnd(line int, words []string) int {
	if len(words) == 2 && words[0] == "s" {
		switch words[1] {
		case wordSat:
			return api.Sat
		case wordUnsat:
			return api.Unsat
		case wordOpen:
			return api.Open
		}
	}
	fail(api.ErrArg, line)
	return 0
}

// parseTruths reads the truths of all variables, in order.
func parseTruths(line int, words []string) []bool {
	if words[0] != "v" {
		fail(api.ErrArg, line)
	}
	list := numbers(line, words[1:])
	last := len(list) - 1
	if last < 0 || list[last] != 0 {
		fail(api.ErrArg, line)
	}
	var truths []bool
	for i, n := range list[:last] {
		if n != i+1 && n != -i-1 {
			fail(api.ErrArg, line)
		}
		truths = append(truths, n > 0)
	}
	return truths
}
