package plan

import (
	"math/rand"
	"slices"
	"strings"
	"testing"

	"pomace/api"
	"pomace/engine"
	"pomace/graph"
	"pomace/mediate"
	"pomace/sample"
)

func same(a, b [][]int) bool { return slices.EqualFunc(a, b, slices.Equal[[]int]) }

// made makes an engine of g:a:1, of what each artifact needs.
func made(l ...string) *engine.Engine {
	var projects []string
	for _, w := range l {
		words := strings.Fields(w)
		needs := ""
		for _, d := range words[1:] {
			needs += d + " 1;"
		}
		projects = append(projects, "g:"+words[0]+":1", sample.Needs(needs))
	}
	return engine.New(sample.Store(projects...), sample.Gav("g:a:1"), 9)
}

func told(l []api.Item) string {
	s := ""
	for _, x := range l {
		s += x.Key.Artifact
	}
	return s
}

func toldWaves(l [][]api.Item) string {
	var out []string
	for _, wave := range l {
		out = append(out, told(wave))
	}
	return strings.Join(out, " ")
}

// P30.1: what each choice needs.
func TestGraph(t *testing.T) {
	e := made("a b c", "b c d", "c d", "d b")
	if got := Graph(e.Tree(), e.Chosen()); !same(got, [][]int{{1, 2}, {2, 3}, {3}, {1}}) {
		t.Error(got)
	}
	node := func(up int, a string) api.Branch { return api.Branch{Up: up, Key: sample.Key(a)} }
	l := []api.Branch{node(-1, "a"), node(0, "c"), node(0, "b"), node(0, "c"), node(0, "x"), node(2, "a"), node(2, "b"), node(1, "b")}
	chosen := []api.Choice{{Key: sample.Key("b"), At: 2}, {Key: sample.Key("a"), At: 0}, {Key: sample.Key("c"), At: 1}, {Key: sample.Key("b"), At: 1}, {Key: sample.Key("z"), At: 99}}
	if got := Graph(l, chosen); !same(got, [][]int{{1, 0}, {2, 0}, {0}, {0}, nil}) {
		t.Error(got)
	}
	if len(Graph(nil, nil)) > 0 || !same(Graph(nil, chosen[:1]), [][]int{nil}) || len(Graph(l, nil)) > 0 {
		t.Error("none")
	}
}

// P30.2: waves, and what is touched.
func TestWaves(t *testing.T) {
	for i, w := range []struct{ g, waves [][]int }{
		{nil, nil}, {[][]int{{1, 2}, {2}, {}}, [][]int{{2}, {1}, {0}}}, {[][]int{{}, {0, 0}, {}, {1, 2}, {4}, {4}, {0, 3}}, [][]int{{0, 2}, {1}, {3}, {6}}}, {[][]int{{1}, {0}, {}}, [][]int{{2}}}, {[][]int{{0}}, nil}, {[][]int{{1}}, nil}, {[][]int{{-1}}, nil},
	} {
		if got := Waves(w.g); !same(got, w.waves) {
			t.Error(i, got)
		}
	}
	g := [][]int{{1, 2}, {2}, {}, {0}, {5}, {4}}
	for i, w := range []struct{ changed, want []int }{{[]int{2}, []int{0, 1, 2, 3}}, {[]int{1, 5, 1}, []int{0, 1, 3, 4, 5}}, {[]int{-1, 6, 3}, []int{3}}, {nil, nil}} {
		if got := Touched(g, w.changed); !slices.Equal(got, w.want) {
			t.Error(i, got)
		}
	}
	if len(Touched([][]int{{1}}, []int{0})) > 0 {
		t.Error("wrong graph")
	}
}

// P30.3: of an engine.
func TestOf(t *testing.T) {
	e := made("a b c", "b c", "c")
	if l, ok := Of(e); toldWaves(l) != "c b a" || !ok {
		t.Error(toldWaves(l), ok)
	}
	for k, want := range map[string]string{"c": "abc", "b": "ab", "a": "a", "x": ""} {
		if got := told(After(e, sample.Key(k))); got != want {
			t.Error(k, got)
		}
	}
	if l, ok := Of(made("a b d", "b c", "c b", "d e", "e")); toldWaves(l) != "e d" || ok {
		t.Error(toldWaves(l), ok)
	}
	for _, e := range []*engine.Engine{nil, made(), made("a b")} {
		if l, ok := Of(e); len(l) > 0 || ok || len(After(e, sample.Key("a"))) > 0 {
			t.Error(l, ok)
		}
	}
}

// P30.4, P30.5, P30.6: what stands in a wave needs waves ahead; all stand just if there is an order; what isn't touched reaches nothing that changed.
func TestFollows(t *testing.T) {
	r := rand.New(rand.NewSource(45))
	for range 10000 {
		n := 1 + r.Intn(7)
		g := make([][]int, n)
		for range r.Intn(10) {
			u := r.Intn(n)
			g[u] = append(g[u], r.Intn(n))
		}
		at := map[int]int{}
		for i, wave := range Waves(g) {
			if !slices.IsSorted(wave) || len(wave) == 0 {
				t.Fatal(g)
			}
			for _, v := range wave {
				last := -1
				for _, u := range g[v] {
					k, ok := at[u]
					if !ok || k >= i {
						t.Fatal(g, v)
					}
					last = max(last, k)
				}
				if last != i-1 {
					t.Fatal(g, v)
				}
				at[v] = i
			}
		}
		if _, ok := graph.Order(g); ok != (len(at) == n) {
			t.Fatal(g)
		}
		for v := range g {
			round := slices.ContainsFunc(graph.Reach(g, v), func(u int) bool {
				return slices.ContainsFunc(g[u], func(w int) bool { return slices.Contains(graph.Reach(g, w), u) })
			})
			if _, stands := at[v]; stands == round {
				t.Fatal(g, v)
			}
		}
		changed := []int{r.Intn(n), r.Intn(n + 2)}
		touched := Touched(g, changed)
		for v := range g {
			hit := slices.ContainsFunc(graph.Reach(g, v), func(u int) bool { return slices.Contains(changed, u) })
			if hit != slices.Contains(touched, v) || !slices.IsSorted(touched) {
				t.Fatal(g, changed, touched)
			}
		}
	}
}

// P30.1, P30.4: of engines, what an item needs is what its node has under it that is chosen.
func TestEngines(t *testing.T) {
	r := rand.New(rand.NewSource(46))
	for range 300 {
		var l []string
		for _, a := range []string{"a", "b", "c", "d", "e"} {
			for range r.Intn(3) {
				a += " " + string("bcde"[r.Intn(4)])
			}
			l = append(l, a)
		}
		e := made(l...)
		chosen := e.Chosen()
		waves, all := Of(e)
		g := Graph(e.Tree(), chosen)
		if _, ok := graph.Order(g); ok != all {
			t.Fatal(l)
		}
		for n, c := range chosen {
			for _, i := range mediate.Kids(e.Tree(), chosen, c.At) {
				x, _ := mediate.Find(chosen, e.Tree()[i].Key)
				if !slices.ContainsFunc(g[n], func(k int) bool { return chosen[k] == x }) {
					t.Fatal(l)
				}
			}
		}
		count := 0
		for _, wave := range waves {
			count += len(wave)
		}
		if all != (count == len(chosen)) {
			t.Fatal(l)
		}
	}
}
