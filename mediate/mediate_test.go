package mediate

import (
	"math/rand"
	"slices"
	"testing"

	"pomace/api"
	"pomace/coord"
)

func key(a string) api.Key { return api.Key{Group: "g", Artifact: a, Type: "jar"} }

func node(up, depth int, a, v string, scope int) api.Branch {
	return api.Branch{Up: up, Depth: depth, Key: key(a), Version: v, Scope: scope}
}

func choice(a string, at int, v string, scope int) api.Choice {
	return api.Choice{Key: key(a), At: at, Version: v, Scope: scope}
}

// example: a needs b, c; b needs d 1; c needs d 2, and that e.
func example() []api.Branch {
	return []api.Branch{node(-1, 0, "a", "1", 0), node(0, 1, "b", "1", 1), node(0, 1, "c", "1", 2), node(1, 2, "d", "1", 5), node(2, 2, "d", "2", 2), node(4, 3, "e", "1", 1)}
}

// P13.1: what is live and chosen.
func TestChoose(t *testing.T) {
	l := example()
	if got := Live(l); !slices.Equal(got, []bool{true, true, true, true, true, false}) {
		t.Error(got)
	}
	if got := Choose(l); !Same(got, []api.Choice{choice("a", 0, "1", 0), choice("b", 1, "1", 1), choice("c", 2, "1", 2), choice("d", 3, "1", 2)}) {
		t.Error(got)
	}
	if len(Live(nil)) != 0 || len(Choose(nil)) != 0 {
		t.Error("none")
	}
	// a scope of a depth below 2 is the node's own; an Up that isn't ahead leads nowhere; the first node is live in any case.
	l = []api.Branch{node(7, 5, "a", "1", 5), node(0, 1, "b", "1", 5), node(0, 2, "b", "2", 1), node(0, 2, "c", "1", 5), node(0, 1, "c", "2", 3), node(0, 3, "c", "3", 2), node(6, 1, "x", "1", 1), node(-1, 1, "y", "1", 1), node(9, 1, "z", "1", 1), node(-2, 1, "z", "1", 1), node(2, 1, "w", "1", 1)}
	if got := Live(l); !slices.Equal(got, []bool{true, true, true, true, true, true, false, false, false, false, false}) {
		t.Error(got)
	}
	if got := Choose(l); !Same(got, []api.Choice{choice("a", 0, "1", 5), choice("b", 1, "1", 5), choice("c", 3, "1", 2)}) {
		t.Error(got)
	}
	// what isn't live widens nothing
	l = []api.Branch{node(-1, 0, "a", "1", 0), node(0, 2, "b", "1", 5), node(0, 2, "b", "2", 3), node(2, 3, "b", "1", 1)}
	if got := Choose(l); got[1] != choice("b", 1, "1", 3) {
		t.Error(got)
	}
}

// P13.2: what is asked of choices.
func TestAsk(t *testing.T) {
	l := example()
	c := Choose(l)
	if got, ok := Find(c, key("d")); !ok || got != c[3] {
		t.Error(got)
	}
	if got, ok := Find(append([]api.Choice{choice("d", 9, "9", 1)}, c...), key("d")); !ok || got.At != 9 {
		t.Error(got)
	}
	if got, ok := Find(c, key("e")); ok || got != (api.Choice{}) {
		t.Error(got)
	}
	for i, want := range map[int][]int{0: {1, 2}, 1: {3}, 2: nil, 3: nil, 4: nil, -1: nil, -2: nil, 99: nil} {
		if got := Kids(l, c, i); !slices.Equal(got, want) {
			t.Error(i, got)
		}
	}
	any := []api.Choice{choice("x", 2, "", 0), choice("y", 1, "", 0), choice("z", 2, "", 0), choice("x", -1, "", 0), choice("x", 6, "", 0), choice("x", 0, "", 0)}
	if got := Kids(l, any, 0); !slices.Equal(got, []int{1, 2}) {
		t.Error(got)
	}
	if got := Kids(l, any[:3], -1); len(got) != 0 {
		t.Error(got)
	}
	for i, d := range [][]api.Choice{nil, c[:3], {c[0], c[1], c[2], choice("d", 3, "1", 1)}, {c[0], c[1], c[2], choice("d", 4, "1", 2)}, {c[0], c[1], c[2], choice("d", 3, "2", 2)}, {c[0], c[1], c[2], choice("e", 3, "1", 2)}} {
		if Same(c, d) {
			t.Error(i)
		}
	}
	if !Same(c, slices.Clone(c)) || !Same(nil, []api.Choice{}) {
		t.Error("same")
	}
}

// someRow: nodes level by level, each under one ahead; not a tree of a store, but of its shape.
func someRow(r *rand.Rand) []api.Branch {
	l := []api.Branch{node(-1, 0, "a", "1", 0)}
	from := 0
	for depth := 1; depth < 5 && from < len(l); depth++ {
		to := len(l)
		for up := from; up < to; up++ {
			for order := range r.Intn(4) {
				b := node(up, depth, string("abcdefg"[r.Intn(7)]), string("12"[r.Intn(2)]), 1+r.Intn(5))
				b.Order = order
				l = append(l, b)
			}
		}
		from = to
	}
	return l
}

func path(l []api.Branch, i int) []int {
	var p []int
	for ; i > 0; i = l[i].Up {
		p = append(p, l[i].Order)
	}
	slices.Reverse(p)
	return p
}

// P13.3, P13.5: just one of each Key, the nearest; its scope.
func TestNearest(t *testing.T) {
	r := rand.New(rand.NewSource(21))
	for range 5000 {
		l := someRow(r)
		c, live := Choose(l), Live(l)
		var at []int
		for _, x := range c {
			at = append(at, x.At)
			b := l[x.At]
			if b.Key != x.Key || b.Version != x.Version || coord.Wider(x.Scope, b.Scope) != x.Scope {
				t.Fatal(x)
			}
		}
		if !slices.IsSorted(at) {
			t.Fatal(at)
		}
		for i, b := range l {
			if i > 0 && live[i] != slices.Contains(at, b.Up) {
				t.Fatal(i)
			}
			x, ok := Find(c, b.Key)
			if !live[i] {
				continue
			}
			near := l[x.At]
			if !ok || near.Depth > b.Depth || near.Depth == b.Depth && slices.Compare(path(l, x.At), path(l, i)) > 0 {
				t.Fatal(i, x)
			}
			if near.Depth > 1 && coord.Wider(x.Scope, b.Scope) != x.Scope {
				t.Fatal(i, x)
			}
		}
		keys := map[api.Key]bool{}
		for _, x := range c {
			if keys[x.Key] || !live[x.At] {
				t.Fatal(x)
			}
			keys[x.Key] = true
		}
	}
}

// P13.4: without a node that isn't live, and those under it, the same is chosen.
func TestWithout(t *testing.T) {
	r := rand.New(rand.NewSource(22))
	for range 5000 {
		l := someRow(r)
		live := Live(l)
		gone := slices.Index(live, false)
		if gone < 0 {
			continue
		}
		out := map[int]bool{gone: true}
		moved := map[int]int{-1: -1}
		var m []api.Branch
		for i, b := range l {
			if out[i] || out[b.Up] {
				out[i] = true
				continue
			}
			moved[i] = len(m)
			b.Up = moved[b.Up]
			m = append(m, b)
		}
		want := Choose(l)
		for i := range want {
			want[i].At = moved[want[i].At]
		}
		if !Same(Choose(m), want) {
			t.Fatal(l, gone)
		}
	}
}
