package graph

import (
	"math/rand"
	"slices"
	"testing"
)

func same(a, b [][]int) bool { return slices.EqualFunc(a, b, slices.Equal[[]int]) }

var round = [][]int{{1}, {2}, {1, 3}, {}}

// wrong: graphs that may not be.
func wrong() [][][]int { return [][][]int{{{1}}, {{0}, {-1}}, {{}, {5, 0}}} }

// P22: which graphs may be; of others all is nothing.
func TestMay(t *testing.T) {
	for _, g := range [][][]int{nil, {}, {{}}, {{0, 0}}, round} {
		if !May(g) {
			t.Error(g)
		}
	}
	for _, g := range wrong() {
		order, ok := Order(g)
		if May(g) || len(Reach(g, 0)) > 0 || len(Turned(g)) > 0 || len(Groups(g)) > 0 || len(order) > 0 || ok || len(Depth(g, 0)) > 0 || len(Path(g, 0, 0)) > 0 || len(Cycle(g)) > 0 {
			t.Error(g)
		}
	}
	for _, v := range []int{-1, 4, 1 << 40} {
		if len(Reach(round, v)) > 0 || len(Depth(round, v)) > 0 || len(Path(round, v, 0)) > 0 || len(Path(round, 0, v)) > 0 {
			t.Error(v)
		}
	}
	if order, ok := Order(nil); len(order) > 0 || !ok || len(Groups(nil)) > 0 || len(Cycle(nil)) > 0 {
		t.Error("empty")
	}
}

// P22.1, P22.2: what can be come to, how far it is, by which way.
func TestWays(t *testing.T) {
	if got := Reach(round, 0); !slices.Equal(got, []int{0, 1, 2, 3}) {
		t.Error(got)
	}
	if got := Reach(round, 2); !slices.Equal(got, []int{1, 2, 3}) {
		t.Error(got)
	}
	if got := Turned([][]int{{1, 1, 0}, {}, {1}}); !same(got, [][]int{{0}, {0, 0, 2}, nil}) {
		t.Error(got)
	}
	g := [][]int{{2, 1}, {3}, {3}, {4, 0}, {}, {4}}
	if got := Depth(g, 0); !slices.Equal(got, []int{0, 1, 1, 2, 3, -1}) {
		t.Error(got)
	}
	for to, want := range [][]int{{0}, {0, 1}, {0, 2}, {0, 1, 3}, {0, 1, 3, 4}, nil} {
		if got := Path(g, 0, to); !slices.Equal(got, want) {
			t.Error(to, got)
		}
	}
	if got := Path(round, 0, 3); !slices.Equal(got, []int{0, 1, 2, 3}) {
		t.Error(got)
	}
	// the last but one is the least, not the way the least
	if got := Path([][]int{{1, 2}, {4}, {3}, {5}, {5}, {}}, 0, 5); !slices.Equal(got, []int{0, 2, 3, 5}) {
		t.Error(got)
	}
}

// P22.3, P22.4: groups, orders, ways round about.
func TestGroups(t *testing.T) {
	for i, w := range []struct {
		g, groups [][]int
		order     []int
		cycle     []int
	}{
		{round, [][]int{{0}, {1, 2}, {3}}, nil, []int{1, 2}}, {[][]int{{}, {}, {}}, [][]int{{0}, {1}, {2}}, []int{0, 1, 2}, nil}, {[][]int{{}, {0}, {1, 1}}, [][]int{{2}, {1}, {0}}, []int{2, 1, 0}, nil},
		{[][]int{{}, {0}, {}, {2}}, [][]int{{1}, {0}, {3}, {2}}, []int{1, 0, 3, 2}, nil}, {[][]int{{1}, {1}}, [][]int{{0}, {1}}, nil, []int{1}}, {[][]int{{3}, {4}, {}, {0}, {1, 0}}, [][]int{{1, 4}, {0, 3}, {2}}, nil, []int{0, 3}},
		{[][]int{{1, 2}, {3}, {0}, {0}}, [][]int{{0, 1, 2, 3}}, nil, []int{0, 2}}, {[][]int{{0, 1}, {0}}, [][]int{{0, 1}}, nil, []int{0}}, {[][]int{{4, 3}, {}, {}, {0}, {0}}, [][]int{{0, 3, 4}, {1}, {2}}, nil, []int{0, 3}},
	} {
		order, ok := Order(w.g)
		if !same(Groups(w.g), w.groups) || !slices.Equal(order, w.order) || ok != (w.order != nil) || !slices.Equal(Cycle(w.g), w.cycle) {
			t.Error(i, Groups(w.g), order, Cycle(w.g))
		}
	}
}

// A long way round about is gone through without calls of itself.
func TestLong(t *testing.T) {
	const n = 200000
	g := make([][]int, n)
	for v := range g {
		g[v] = []int{(v + 1) % n}
	}
	if len(Groups(g)) != 1 || len(Cycle(g)) != n || len(Path(g, 1, 0)) != n {
		t.Error("round")
	}
	g[n-1] = nil
	if order, ok := Order(g); !ok || len(order) != n || len(Groups(g)) != n {
		t.Error("line")
	}
}

// P22.4: the least that could be next, of many.
func TestLeast(t *testing.T) {
	r := rand.New(rand.NewSource(48))
	for range 300 {
		n := 1 + r.Intn(40)
		names := r.Perm(n)
		g := make([][]int, n)
		for range r.Intn(2 * n) {
			u, v := r.Intn(n), r.Intn(n)
			if u < v {
				g[names[u]] = append(g[names[u]], names[v])
			}
		}
		var want []int
		for len(want) < n {
			for v := range n {
				free := !slices.Contains(want, v) && !slices.ContainsFunc(Turned(g)[v], func(u int) bool { return !slices.Contains(want, u) })
				if free {
					want = append(want, v)
					break
				}
			}
		}
		if got, ok := Order(g); !ok || !slices.Equal(got, want) {
			t.Fatal(g, got, want)
		}
	}
}

func some(r *rand.Rand) [][]int {
	n := r.Intn(8)
	g := make([][]int, n)
	for range r.Intn(2*n + 1) {
		u := r.Intn(n)
		g[u] = append(g[u], r.Intn(n))
	}
	return g
}

// reaches: can v be come to from u in at least one step?
func reaches(g [][]int, u, v int) bool {
	return slices.ContainsFunc(g[u], func(next int) bool { return slices.Contains(Reach(g, next), v) })
}

// P22.3 to P22.7: groups and orders, as they are said.
func TestFollows(t *testing.T) {
	r := rand.New(rand.NewSource(31))
	for range 20000 {
		g := some(r)
		groups := Groups(g)
		var flat []int
		at := map[int]int{}
		single := true
		for i, group := range groups {
			if !slices.IsSorted(group) {
				t.Fatal(g, groups)
			}
			for _, v := range group {
				at[v] = i
				flat = append(flat, v)
			}
			single = single && len(group) == 1 && !slices.Contains(g[group[0]], group[0])
		}
		if len(at) != len(g) || len(flat) != len(g) {
			t.Fatal(g, groups)
		}
		for u := range g {
			for v := range g {
				to, back := u == v || reaches(g, u, v), u == v || reaches(g, v, u)
				if (at[u] == at[v]) != (to && back) || to && at[u] > at[v] {
					t.Fatal(g, groups)
				}
			}
		}
		// again and again the group with the least node among those that no group leads to that isn't there yet
		for i := range groups {
			for j := i + 1; j < len(groups); j++ {
				free := !slices.ContainsFunc(groups[i:], func(o []int) bool {
					return o[0] != groups[j][0] && slices.Contains(Reach(g, o[0]), groups[j][0])
				})
				if free && groups[j][0] < groups[i][0] {
					t.Fatal(g, groups)
				}
			}
		}
		order, ok := Order(g)
		if ok != single || ok && !slices.Equal(order, flat) {
			t.Fatal(g, order)
		}
		cycle := Cycle(g)
		if ok != (len(cycle) == 0) {
			t.Fatal(g, cycle)
		}
		for i, v := range cycle {
			if !slices.Contains(g[v], cycle[(i+1)%len(cycle)]) {
				t.Fatal(g, cycle)
			}
		}
		for v := range g {
			if reaches(g, v, v) {
				if cycle[0] != v {
					t.Fatal(g, cycle)
				}
				break
			}
		}
		twice := Turned(Turned(g))
		for v := range g {
			l, m := slices.Sorted(slices.Values(g[v])), slices.Sorted(slices.Values(twice[v]))
			if !slices.Equal(l, m) {
				t.Fatal(g, twice)
			}
		}
	}
}
