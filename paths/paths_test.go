package paths

import (
	"math/rand"
	"slices"
	"strings"
	"testing"

	"pomace/api"
	"pomace/coord"
	"pomace/mediate"
)

func key(a string) api.Key { return api.Key{Group: "g", Artifact: a, Type: "jar"} }

func node(up, depth int, a, v string, scope int) api.Branch {
	return api.Branch{Up: up, Depth: depth, Key: key(a), Version: v, Scope: scope}
}

// example: a needs b and c (test); b needs d 1 and e; c needs d 2, e, b again, and a.
func example() []api.Branch {
	l := []api.Branch{node(-1, 0, "a", "1", 0), node(0, 1, "b", "1", 1), node(0, 1, "c", "1", 5), node(1, 2, "d", "1", 2), node(1, 2, "e", "1", 1), node(2, 2, "d", "2", 1), node(2, 2, "e", "1", 5), node(2, 2, "b", "1", 5), node(2, 2, "a", "2", 5), node(2, 2, "f", "1", 3), node(9, 3, "h", "1", 3)}
	l[8].Round = true
	return l
}

func told(l []api.Item) string {
	var out []string
	for _, x := range l {
		out = append(out, x.Key.Artifact+x.Version)
	}
	return strings.Join(out, " ")
}

// P14.1: the order in which nodes are met.
func TestOrder(t *testing.T) {
	l := example()
	if got := Order(l, mediate.Choose(l)); !slices.Equal(got, []int{1, 3, 4, 2, 9, 10}) {
		t.Error(got)
	}
	if len(Order(nil, nil)) != 0 || len(Order(l[:1], mediate.Choose(l[:1]))) != 0 {
		t.Error("none")
	}
	// what is chosen under a node that isn't is not met
	c := []api.Choice{{Key: key("a"), At: 0}, {Key: key("f"), At: 9}, {Key: key("d"), At: 3}, {Key: key("c"), At: 2}}
	if got := Order(l, c); !slices.Equal(got, []int{2, 9}) {
		t.Error(got)
	}
}

// P14.2: classpaths.
func TestShow(t *testing.T) {
	l := example()
	c := mediate.Choose(l)
	for scope, want := range map[int]string{1: "b1 d1 e1 f1 h1", 2: "b1 d1 e1", 3: "b1 d1 e1 f1 h1", 4: "", 5: "b1 d1 e1 c1 f1 h1", 0: "", 6: "", -1: ""} {
		if got := told(Show(l, c, scope)); got != want {
			t.Error(scope, got)
		}
	}
}

// P14.3: files.
func TestFile(t *testing.T) {
	x := api.Item{Key: api.Key{Group: "org.x.y", Artifact: "a.b", Type: "jar", Classifier: "src"}, Version: "1.0"}
	y := api.Item{Key: api.Key{Group: "g", Artifact: "a", Type: "tar.gz"}, Version: "2"}
	want := []string{"org/x/y/a.b/1.0/a.b-1.0-src.jar", "g/a/2/a-2.tar.gz"}
	if File(x) != want[0] || File(y) != want[1] || !slices.Equal(Files([]api.Item{x, y}), want) || len(Files(nil)) != 0 {
		t.Error(File(x), File(y))
	}
}

// P14.4: lines of live nodes.
func TestReport(t *testing.T) {
	l := example()
	l = append(l, node(6, 3, "x", "1", 1))
	want := []string{
		"g:a:jar:1", "  g:b:jar:1 compile", "    g:d:jar:1 runtime wider compile", "    g:e:jar:1 compile", "  g:c:jar:1 test",
		"    g:d:jar:2 compile loses to 1", "    g:e:jar:1 test again", "    g:b:jar:1 test again", "    g:a:jar:2 test loses to 1 round", "    g:f:jar:1 provided", "      g:h:jar:1 provided",
	}
	if got := Report(l, mediate.Choose(l)); !slices.Equal(got, want) {
		t.Error(strings.Join(got, "\n"))
	}
	if len(Report(nil, nil)) != 0 {
		t.Error("none")
	}
	round := []api.Branch{node(-1, 0, "a", "1", 0), node(0, 1, "b", "1", 1), {Up: 1, Depth: 2, Key: api.Key{Group: "g", Artifact: "a", Type: "war", Classifier: "k"}, Version: "1", Scope: 1, Round: true}}
	if got := Report(round, mediate.Choose(round)); got[2] != "    g:a:war:k:1 compile round" {
		t.Error(got)
	}
}

// someRow: nodes level by level, each under one ahead.
func someRow(r *rand.Rand) []api.Branch {
	l := []api.Branch{node(-1, 0, "a", "1", 0)}
	from := 0
	for depth := 1; depth < 5 && from < len(l); depth++ {
		to := len(l)
		for up := from; up < to; up++ {
			for range r.Intn(4) {
				l = append(l, node(up, depth, string("abcdefg"[r.Intn(7)]), string("12"[r.Intn(2)]), 1+r.Intn(5)))
			}
		}
		from = to
	}
	return l
}

// P14.5, P14.6: each Key once; the same order in all classpaths; what led to another one ahead of it.
func TestFollows(t *testing.T) {
	r := rand.New(rand.NewSource(23))
	for range 5000 {
		l := someRow(r)
		c := mediate.Choose(l)
		all := Show(l, c, api.ScopeTest)
		if len(all) != len(c)-1 {
			t.Fatal(told(all))
		}
		at := map[api.Key]int{}
		for i, x := range all {
			if _, twice := at[x.Key]; twice {
				t.Fatal(told(all))
			}
			at[x.Key] = i
		}
		for scope := 1; scope < 5; scope++ {
			last := -1
			for _, x := range Show(l, c, scope) {
				i, ok := at[x.Key]
				if !ok || i <= last || all[i] != x {
					t.Fatal(told(all))
				}
				last = i
			}
		}
		for _, x := range c {
			if up := l[x.At].Up; x.At > 0 && up > 0 && at[l[up].Key] >= at[x.Key] {
				t.Fatal(told(all))
			}
		}
		lines := 0
		for _, live := range mediate.Live(l) {
			if live {
				lines++
			}
		}
		if len(Report(l, c)) != lines {
			t.Fatal(lines)
		}
	}
}

// P14.7: no two items of names without dots and hyphens have one file.
func TestFilesApart(t *testing.T) {
	seen := map[string]api.Item{}
	names := []string{"a", "b", "ab"}
	for _, g := range names {
		for _, a := range names {
			for _, typ := range names {
				for _, k := range append(names, "") {
					for _, v := range names {
						x := api.Item{Key: api.Key{Group: g, Artifact: a, Type: typ, Classifier: k}, Version: v}
						if y, ok := seen[File(x)]; ok || !coord.MayKey(x.Key) {
							t.Fatal(x, y)
						}
						seen[File(x)] = x
					}
				}
			}
		}
	}
}
