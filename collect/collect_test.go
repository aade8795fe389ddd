package collect

import (
	"math/rand"
	"slices"
	"strconv"
	"strings"
	"testing"

	"pomace/api"
	"pomace/bounds"
	"pomace/coord"
	"pomace/model"
	"pomace/sample"
	"pomace/store"
)

// told writes the nodes: the node above, depth, order, artifact, version, range, scope.
func told(l []api.Branch) string {
	var out []string
	for _, b := range l {
		s := strconv.Itoa(b.Up) + " " + strconv.Itoa(b.Depth) + " " + strconv.Itoa(b.Order) + " " + b.Key.Artifact + " " + b.Version + " " + bounds.Print(b.Range)
		if b.Scope != 0 {
			s += " " + coord.Word(b.Scope)
		}
		if b.Round {
			s += " round"
		}
		out = append(out, s)
	}
	return strings.Join(out, "; ")
}

func tree(t *testing.T, s *store.Store, root string) []api.Branch {
	l, problem := Tree(s, sample.Gav(root))
	if problem != (api.Problem{}) {
		t.Fatal(root, problem)
	}
	return l
}

// P12.1, P12.2: level by level; what is taken.
func TestTree(t *testing.T) {
	for _, w := range [][]string{
		{"0", "g:a:1", ""},
		{"-1 0 0 a 1 1; 0 1 0 b 1 1 compile; 1 2 0 c 1 1 runtime", "g:a:1", sample.Deps(sample.Dep("g:b 1")), "g:b:1", sample.Deps(sample.Dep("g:c 1 runtime"), sample.Dep("g:d 1 test")), "g:c:1", ""},
		{"-1 0 0 a 1 1; 0 1 0 b 1 1 compile", "g:a:1", sample.Deps(sample.Dep("g:b 1", sample.Without("*:c"))), "g:b:1", sample.Deps(sample.Dep("g:c 1")), "g:c:1", ""},
		{"-1 0 0 a 1 1; 0 1 0 b 1 1 test; 0 1 1 c 1 1 provided; 0 1 2 d 1 1 system; 1 2 0 e 1 1 test; 1 2 1 f 1 1 test; 2 2 0 e 1 1 provided; 2 2 1 f 1 1 provided",
			"g:a:1", sample.Deps(sample.Dep("g:b 1 test", sample.Optional), sample.Dep("g:c 1 provided"), sample.Dep("g:d 1 system")), "g:b:1", sample.Deps(sample.Dep("g:e 1"), sample.Dep("g:f 1 runtime"), sample.Dep("g:x 1 provided")), "g:c:1", sample.Deps(sample.Dep("g:e 1"), sample.Dep("g:f 1 runtime"), sample.Dep("g:x 1 test")), "g:d:1", sample.Deps(sample.Dep("g:x 1")), "g:e:1", "", "g:f:1", ""},
		{"-1 0 0 a 1 1; 0 1 0 b 1 1 compile; 1 2 1 d 1 1 compile", "g:a:1", sample.Deps(sample.Dep("g:b 1")), "g:b:1", sample.Deps(sample.Dep("g:c 1", sample.Optional), sample.Dep("g:d 1")), "g:d:1", ""},
		{"-1 0 0 a 1 1; 0 1 0 b 1 1 compile; 1 2 0 c 1 1 runtime", "g:a:1", sample.Managed(sample.Dep("g:c - runtime"), sample.Dep("g:d - test")) + sample.Deps(sample.Dep("g:b 1")), "g:b:1", sample.Deps(sample.Dep("g:c 1 test"), sample.Dep("g:d 1 compile")), "g:c:1", ""},
		{"-1 0 0 a 1 1; 0 1 0 c 1 1 compile", "g:a:1", sample.Managed(sample.Dep("g:c 2 runtime")) + sample.Deps(sample.Dep("g:c 1 compile")), "g:c:1", ""},
		{"-1 0 0 a 1 1; 0 1 0 b 1 1 compile; 1 2 0 c 1 1 compile", "g:a:1", sample.Managed(sample.Dep("g:c -")) + sample.Deps(sample.Dep("g:b 1")), "g:b:1", sample.Managed(sample.Dep("g:c 9 test")) + sample.Deps(sample.Dep("g:c 1 compile")), "g:c:1", ""},
		{"-1 0 0 a 1 1; 0 1 0 b 1 1 compile; 0 1 1 c 1 1 compile; 1 2 0 c 1 1 compile; 2 2 0 d 1 1 compile", "g:a:1", sample.Deps(sample.Dep("g:b 1", sample.Without("g:d")), sample.Dep("g:c 1")), "g:b:1", sample.Deps(sample.Dep("g:c 1")), "g:c:1", sample.Deps(sample.Dep("g:d 1")), "g:d:1", ""},
		{"-1 0 0 a 1 1; 0 1 0 c 1 1 compile", "g:a:1", sample.Deps(sample.Dep("g:c 1", sample.Without("g:c"))), "g:c:1", ""},
		{"-1 0 0 a 1 1; 0 1 0 b 1 1 compile; 1 2 0 a 2 2 compile round; 1 2 1 b 3 3 compile round; 1 2 2 c 1 1 compile; 4 3 0 b 9 9 compile round", "g:a:1", sample.Deps(sample.Dep("g:b 1")), "g:b:1", sample.Deps(sample.Dep("g:a 2"), sample.Dep("g:b 3"), sample.Dep("g:c 1")), "g:c:1", sample.Deps(sample.Dep("g:b 9"))},
	} {
		want := w[0]
		if want == "0" {
			want = "-1 0 0 a 1 1"
		}
		if got := told(tree(t, sample.Store(w[1:]...), "g:a:1")); got != want {
			t.Errorf("%s\n%s", got, want)
		}
	}
	l := tree(t, sample.Store("g:a:1", ""), "g:a:1")
	if l[0].Key != (api.Key{Group: "g", Artifact: "a", Type: "jar"}) || l[0].Scope != api.NoScope {
		t.Error(l)
	}
}

// P12.1: trees of one builder.
func TestWith(t *testing.T) {
	s := sample.Store("g:a:1", sample.Deps(sample.Dep("g:b 1")), "g:b:1", "")
	b := model.New(s)
	l, problem := With(s, b, sample.Gav("g:a:1"))
	if problem != (api.Problem{}) || !Same(l, tree(t, s, "g:a:1")) || b.Built() != 2 {
		t.Error(l, problem)
	}
	s = sample.Store("g:a:1", sample.Needs("b [1]; b [1] test"), "g:b:1", "")
	b = model.New(s)
	l, _ = With(s, b, sample.Gav("g:a:1"))
	l[1].Range.Parts[0].Lo.Version = "9"
	if l, _ = With(s, b, sample.Gav("g:a:1")); l[1].Range.Parts[0].Lo.Version != "1" {
		t.Error("shared")
	}
	if l, problem := With(s, nil, sample.Gav("g:a:1")); l != nil || problem != (api.Problem{Err: api.ErrPom, Gav: sample.Gav("g:a:1")}) {
		t.Error(problem)
	}
	if l, problem := Tree(nil, sample.Gav("g:a:1")); l != nil || problem != (api.Problem{Err: api.ErrPom, Gav: sample.Gav("g:a:1")}) {
		t.Error(problem)
	}
}

// P12.3: ranges and versions, by the need or by what the root manages.
func TestNode(t *testing.T) {
	s := sample.Store("g:a:1", sample.Managed(sample.Dep("g:c [1,3)"), sample.Dep("g:d 7"))+sample.Deps(sample.Dep("g:b [1,3]"), sample.Dep("g:d [2]")),
		"g:b:1", "", "g:b:3.0", sample.Deps(sample.Dep("g:c [9]"), sample.Dep("g:d [8]"), sample.Dep("g:e (,1]")), "g:b:3", sample.Deps(sample.Dep("g:x 1")), "g:b:4", "", "g:c:1", "", "g:c:2", "", "g:c:3", "", "g:d:2", "", "g:d:7", "", "g:e:1-rc", "")
	const want = "-1 0 0 a 1 1; 0 1 0 b 3.0 [1,3] compile; 0 1 1 d 2 [2] compile; 1 2 0 c 2 [1,3) compile; 1 2 1 d 7 7 compile; 1 2 2 e 1-rc (,1] compile"
	if got := told(tree(t, s, "g:a:1")); got != want {
		t.Error(got)
	}
}

// P12.3: problems, and which is the first.
func TestProblems(t *testing.T) {
	for i, w := range []struct {
		want api.Problem
		l    []string
	}{
		{api.Problem{Err: api.ErrPom, Gav: sample.Gav("g:a:1")}, nil},
		{api.Problem{Err: api.ErrEmpty, Gav: sample.Gav("g:a:1"), Where: "g:b:jar"}, []string{"g:a:1", sample.Deps(sample.Dep("g:b [1]"))}},
		{api.Problem{Err: api.ErrEmpty, Gav: sample.Gav("g:b:1"), Where: "g:c:war:x"}, []string{"g:a:1", sample.Deps(sample.Dep("g:b 1"), sample.Dep("g:d 1")), "g:b:1", sample.Deps(sample.Dep("g:c (1,2]", "<type>war</type><classifier>x</classifier>")), "g:c:1", "", "g:c:3", ""}},
		{api.Problem{Err: api.ErrPom, Gav: sample.Gav("g:b:1")}, []string{"g:a:1", sample.Deps(sample.Dep("g:b 1"), sample.Dep("g:c [1]")), "g:c:1", sample.Deps(sample.Dep("g:d [1]"))}},
		{api.Problem{Err: api.ErrEmpty, Gav: sample.Gav("g:a:1"), Where: "g:c:jar"}, []string{"g:a:1", sample.Deps(sample.Dep("g:b 1"), sample.Dep("g:c [1]"))}},
		{api.Problem{Err: api.ErrFree, Gav: sample.Gav("g:b:1"), Where: "dependency[1]/version"}, []string{"g:a:1", sample.Deps(sample.Dep("g:b 1")), "g:b:1", sample.Deps(sample.Dep("g:c -"))}},
	} {
		if l, problem := Tree(sample.Store(w.l...), sample.Gav("g:a:1")); problem != w.want || l != nil {
			t.Error(i, problem)
		}
	}
}

// wide makes a store in which a needs n b's (by their classifiers), each of which needs m c's.
func wide(t *testing.T, n, m int, more ...string) *store.Store {
	many := func(a string, n int) string {
		var l []string
		for i := range n {
			l = append(l, sample.Dep("g:"+a+" 1", "<classifier>k"+strconv.Itoa(i)+"</classifier>"))
		}
		return strings.Join(l, "")
	}
	return sample.Store("g:a:1", sample.Deps(many("b", n), strings.Join(more, "")), "g:b:1", sample.Deps(many("c", m)), "g:c:1", "")
}

// P12.3: as many nodes as may be, and one more, ahead of what is empty.
func TestBig(t *testing.T) {
	if l, problem := Tree(wide(t, 63, 64), sample.Gav("g:a:1")); problem != (api.Problem{}) || len(l) != api.MaxTree {
		t.Error(len(l), problem)
	}
	big := api.Problem{Err: api.ErrBig, Gav: sample.Gav("g:a:1"), Where: "tree"}
	if l, problem := Tree(wide(t, 64, 64), sample.Gav("g:a:1")); problem != big || l != nil {
		t.Error(problem)
	}
	if _, problem := Tree(wide(t, 63, 64, sample.Dep("g:c 1")), sample.Gav("g:a:1")); problem != big {
		t.Error(problem)
	}
	s := wide(t, 63, 64)
	s.Put(sample.Gav("h:a:1"), "<project><groupId>h</groupId><artifactId>a</artifactId><version>1</version>"+sample.Deps(sample.Dep("g:a 1"), sample.Dep("g:c 1"))+"</project>")
	if _, problem := Tree(s, sample.Gav("h:a:1")); problem != (api.Problem{Err: api.ErrBig, Gav: sample.Gav("h:a:1"), Where: "tree"}) {
		t.Error(problem)
	}
	for n, want := range map[int]api.Problem{62: {Err: api.ErrEmpty, Gav: sample.Gav("g:c:1"), Where: "g:h:jar"}, 63: big} {
		s := wide(t, n, 64)
		u := store.New()
		for _, g := range s.All() {
			text, _ := s.Text(g)
			if g.Artifact == "c" {
				text = strings.Replace(text, "</project>", sample.Deps(sample.Dep("g:h [1]"))+"</project>", 1)
			}
			u.Put(g, text)
		}
		if _, problem := Tree(u, sample.Gav("g:a:1")); problem != want {
			t.Error("ahead of what is empty", n, problem)
		}
	}
}

// P12.4: paths, names, what is the same.
func TestPath(t *testing.T) {
	l := tree(t, sample.Store("g:a:1", sample.Deps(sample.Dep("g:b 1"), sample.Dep("g:c 1")), "g:b:1", "", "g:c:1", sample.Deps(sample.Dep("g:x 1", sample.Optional), sample.Dep("g:b 2")), "g:b:2", ""), "g:a:1")
	for i, want := range map[int][]int{-1: nil, 0: nil, 1: {0}, 2: {1}, 3: {1, 1}, 4: nil, 1 << 40: nil} {
		if got := Path(l, i); !slices.Equal(got, want) {
			t.Error(i, got)
		}
	}
	if len(Path(nil, 0)) != 0 || Gav(l[3]) != sample.Gav("g:b:2") {
		t.Error(Gav(l[3]))
	}
	for i, change := range []func(b *api.Branch){
		func(b *api.Branch) { b.Up++ }, func(b *api.Branch) { b.Depth++ }, func(b *api.Branch) { b.Order++ }, func(b *api.Branch) { b.Key.Type = "" }, func(b *api.Branch) { b.Version = "" }, func(b *api.Branch) { b.Range.Version = "" },
		func(b *api.Branch) { b.Scope++ }, func(b *api.Branch) { b.Round = true },
	} {
		m := slices.Clone(l)
		change(&m[3])
		if Same(l, m) || Same(m, l) {
			t.Error(i)
		}
	}
	if !Same(l, slices.Clone(l)) || Same(l, l[:3]) || !Same(nil, []api.Branch{}) {
		t.Error("same")
	}
}

// someStore: projects of some versions that need one another.
func someStore(t *testing.T, r *rand.Rand) *store.Store {
	var l []string
	for _, a := range []string{"a", "b", "c", "d"} {
		for v := 1; v < 3; v++ {
			some := func(n int) string {
				var ds []string
				for range r.Intn(n) {
					s := "g:" + string("abcd"[r.Intn(4)]) + " " + []string{"1", "2", "[1]", "[1,2]", "[1,2)"}[r.Intn(5)] + " " + []string{"compile", "runtime", "test", "provided"}[r.Intn(8)%4]
					more := ""
					if r.Intn(5) == 0 {
						more = sample.Optional
					}
					if r.Intn(4) == 0 {
						more += sample.Without([]string{"*:c", "g:d", "g:a"}[r.Intn(3)])
					}
					ds = append(ds, sample.Dep(s, more))
				}
				return strings.Join(ds, "")
			}
			l = append(l, "g:"+a+":"+strconv.Itoa(v), sample.Managed(some(2))+sample.Deps(some(4)))
		}
	}
	return sample.Store(l...)
}

// P12.5, P12.6, P12.7: the order of the nodes, and what is never among them.
func TestFollows(t *testing.T) {
	r := rand.New(rand.NewSource(20))
	for range 3000 {
		s := someStore(t, r)
		b := model.New(s)
		l, problem := With(s, b, sample.Gav("g:a:1"))
		if problem != (api.Problem{}) {
			t.Fatal(problem)
		}
		for i, x := range l {
			if i == 0 {
				continue
			}
			if x.Up < 0 || x.Up >= i || x.Depth != l[x.Up].Depth+1 || l[x.Up].Round || x.Scope == api.NoScope || !bounds.Has(x.Range, x.Version) || !s.Has(Gav(x)) {
				t.Fatal(told(l))
			}
			if last := l[i-1]; last.Depth > x.Depth || last.Depth == x.Depth && slices.Compare(Path(l, i-1), Path(l, i)) >= 0 {
				t.Fatal(told(l))
			}
			m, _ := b.Build(Gav(l[x.Up]))
			if need := m.Needs[x.Order]; need.Key != x.Key || x.Up > 0 && need.Optional {
				t.Fatal(told(l), i)
			}
			round := false
			for up := x.Up; up >= 0; up = l[up].Up {
				round = round || l[up].Key.Artifact == x.Key.Artifact
				if up > 0 {
					m, _ := b.Build(Gav(l[l[up].Up]))
					for _, p := range m.Needs[l[up].Order].Excl {
						if coord.Matches(p, api.Id{Group: x.Key.Group, Artifact: x.Key.Artifact}) {
							t.Fatal(told(l), i)
						}
					}
				}
			}
			if round != x.Round {
				t.Fatal(told(l), i)
			}
		}
	}
}

// naive: P12.2 and P12.3 word by word: the nodes under one whose way from the root is known, by calls of itself.
func naive(s *store.Store, b *model.Builder, way []api.Branch, needs []api.Need) [][]api.Branch {
	root, _ := b.Build(Gav(way[0]))
	manages := func(k api.Key) api.Dep {
		for _, d := range root.Managed {
			if (api.Key{Group: d.Group, Artifact: d.Artifact, Type: d.Type, Classifier: d.Classifier}) == k {
				return d
			}
		}
		return api.Dep{}
	}
	all := [][]api.Branch{way}
	node := way[len(way)-1]
	if node.Round {
		return all
	}
	m, _ := b.Build(Gav(node))
	for order, need := range m.Needs {
		x := api.Branch{Depth: len(way), Order: order, Key: need.Key, Range: need.Range, Scope: need.Scope}
		if len(way) > 1 {
			managed := manages(need.Key)
			if managed.Scope != api.NoScope {
				x.Scope = managed.Scope
			}
			if managed.Version != "" {
				x.Range, _ = bounds.Parse(managed.Version)
			}
			x.Scope = coord.Derive(node.Scope, x.Scope)
			out := need.Optional || x.Scope == api.NoScope
			for _, above := range needs {
				for _, p := range above.Excl {
					out = out || coord.Matches(p, api.Id{Group: need.Key.Group, Artifact: need.Key.Artifact})
				}
			}
			if out {
				continue
			}
		}
		x.Version = x.Range.Version
		if x.Range.Hard {
			x.Version, _ = bounds.Pick(x.Range, s.Versions(api.Id{Group: need.Key.Group, Artifact: need.Key.Artifact}))
		}
		for _, above := range way {
			x.Round = x.Round || above.Key.Group == x.Key.Group && above.Key.Artifact == x.Key.Artifact
		}
		all = append(all, naive(s, b, append(slices.Clone(way), x), append(slices.Clone(needs), need))...)
	}
	return all
}

// P12.1 to P12.3: the tree is what is said word by word, level by level.
func TestAsSaid(t *testing.T) {
	r := rand.New(rand.NewSource(49))
	nodes := 0
	for range 2000 {
		s := someStore(t, r)
		b := model.New(s)
		l, problem := With(s, b, sample.Gav("g:a:1"))
		if problem != (api.Problem{}) {
			t.Fatal(problem)
		}
		want := naive(s, b, l[:1:1], nil)
		slices.SortStableFunc(want, func(x, y []api.Branch) int { return len(x) - len(y) })
		if len(want) != len(l) {
			t.Fatal(told(l))
		}
		for i, way := range want {
			x := way[len(way)-1]
			x.Up = l[i].Up
			var path []int
			for _, above := range way[1:] {
				path = append(path, above.Order)
			}
			if !Same([]api.Branch{x}, l[i:i+1]) || !slices.Equal(path, Path(l, i)) {
				t.Fatal(told(l), i)
			}
		}
		nodes += len(l)
	}
	if nodes < 5000 {
		t.Error(nodes)
	}
}
