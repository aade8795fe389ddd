package weigh

import (
	"math"
	"math/rand"
	"slices"
	"testing"

	"pomace/api"
	"pomace/proof"
	"pomace/sat"
)

func same(a, b [][]int) bool { return slices.EqualFunc(a, b, slices.Equal[[]int]) }

// P21.1: the clauses, in order.
func TestAtMost(t *testing.T) {
	for i, w := range []struct {
		lits    []int
		k, next int
		want    [][]int
		after   int
	}{
		{[]int{1, 2}, 1, 3, [][]int{{-1, 3}, {-2, -3}}, 4}, {[]int{1, 2}, 0, 3, [][]int{{-1}, {-2}}, 3}, {[]int{1, -2, 1}, 0, 3, [][]int{{-1}, {2}, {-1}}, 3}, {[]int{1, 2}, 2, 3, nil, 3}, {[]int{1, 2}, 9, 3, nil, 3}, {[]int{1}, 1, 3, nil, 3},
		{[]int{1, 2}, -1, 3, [][]int{{}}, 3}, {nil, -1, 3, [][]int{{}}, 3}, {nil, math.MinInt, 1, [][]int{{}}, 1}, {nil, 0, 3, nil, 3}, {nil, math.MaxInt, 3, nil, 3},
		{[]int{1, 2, 3}, 1, 10, [][]int{{-1, 10}, {-2, 11}, {-10, 11}, {-2, -10}, {-3, -11}}, 12},
		{[]int{1, -2, 3, 4}, 2, 5, [][]int{{-1, 5}, {-6}, {2, 7}, {-5, 7}, {2, -5, 8}, {-6, 8}, {2, -6}, {-3, 9}, {-7, 9}, {-3, -7, 10}, {-8, 10}, {-3, -8}, {-4, -10}}, 11},
	} {
		if got, after := AtMost(w.lits, w.k, w.next); !same(got, w.want) || after != w.after {
			t.Error(i, got, after)
		}
	}
}

// P21.2: at least so many; how many there are.
func TestLeast(t *testing.T) {
	for i, w := range []struct {
		lits    []int
		k, next int
		want    [][]int
		after   int
	}{
		{[]int{1, -2}, 1, 3, [][]int{{1, 3}, {-2, -3}}, 4}, {[]int{1, -2}, 2, 3, [][]int{{1}, {-2}}, 3}, {[]int{1, 2}, 3, 3, [][]int{{}}, 3}, {[]int{1, 2}, math.MaxInt, 3, [][]int{{}}, 3},
		{[]int{1, 2}, 0, 3, nil, 3}, {[]int{1, 2}, -1, 3, nil, 3}, {[]int{1, 2}, math.MinInt, 3, nil, 3}, {nil, 1, 3, [][]int{{}}, 3}, {nil, 0, 3, nil, 3},
	} {
		if got, after := Least(w.lits, w.k, w.next); !same(got, w.want) || after != w.after {
			t.Error(i, got, after)
		}
	}
	truths := []bool{true, false}
	for n, lits := range [][]int{{}, {1}, {1, -2}, {1, 1, -3}, {1, -1, -2, 2, -9, 1}} {
		if got := Count(lits, truths); got != n {
			t.Error(lits, got)
		}
	}
	if Count([]int{3, math.MaxInt, 2, -1}, truths) != 0 || Count([]int{-1}, nil) != 1 {
		t.Error("beyond")
	}
}

// P21.3: just the truths that count so many can be gone on to such as make all clauses true.
func TestGoOn(t *testing.T) {
	r := rand.New(rand.NewSource(30))
	for range 400 {
		var lits []int
		for range r.Intn(6) {
			lits = append(lits, []int{1, -1}[r.Intn(2)]*(1+r.Intn(4)))
		}
		k := r.Intn(8) - 1
		most, a := AtMost(lits, k, 5)
		least, b := Least(lits, k, 5)
		for bits := range 16 {
			var truths []bool
			var fixed [][]int
			for v := range 4 {
				truths = append(truths, bits>>v&1 == 1)
				n := v + 1
				if !truths[v] {
					n = -n
				}
				fixed = append(fixed, []int{n})
			}
			can := func(clauses [][]int, after int) bool {
				q := api.Question{Vars: after - 1, Clauses: append(slices.Clone(fixed), clauses...)}
				x, e := sat.Solve(q, 1<<30)
				if e != api.OK || !proof.Right(q, x) {
					t.Fatal(q, e)
				}
				return x.End == api.Sat
			}
			count := Count(lits, truths)
			if can(most, a) != (count <= k) || can(least, b) != (count >= k) {
				t.Fatal(lits, k, truths)
			}
		}
	}
}
