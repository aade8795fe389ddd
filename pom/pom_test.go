package pom

import (
	"math/rand"
	"slices"
	"strconv"
	"strings"
	"testing"

	"pomace/api"
	"pomace/tree"
)

func built(t *testing.T, text string) api.Node {
	n, e, at := tree.Build(text)
	if e != api.OK {
		t.Fatal(text, e, at)
	}
	return n
}

const full = `<project>text<parent><groupId>pg</groupId><artifactId>pa</artifactId><version>1</version><x/></parent>
<groupId> g${x} </groupId><artifactId>a<!-- n -->b</artifactId><version>2</version><packaging>pom</packaging><name>n</name>
<properties>x<p>1</p><q.r> </q.r><s/></properties>
<dependencyManagement><dependencies><dependency><groupId>h</groupId><artifactId>b</artifactId><scope>import</scope><type>pom</type></dependency></dependencies></dependencyManagement>
<dependencies><other/><dependency><artifactId>c</artifactId><version>[1,2)</version><type>war</type><classifier>k</classifier><scope>test</scope><optional>true</optional>
<exclusions><exclusion><groupId>*</groupId><artifactId>x</artifactId></exclusion><exclusion><artifactId>*</artifactId><groupId>y</groupId></exclusion></exclusions></dependency>
<dependency><artifactId>d</artifactId><optional>false</optional></dependency></dependencies></project>`

func fullPom() api.Pom {
	return api.Pom{
		HasParent: true, Parent: api.Gav{Group: "pg", Artifact: "pa", Version: "1"}, Group: "g${x}", Artifact: "ab", Version: "2", Packaging: "pom",
		Props:   []api.Prop{{Name: "p", Value: "1"}, {Name: "q.r"}, {Name: "s"}},
		Managed: []api.Dep{{Group: "h", Artifact: "b", Type: "pom", Scope: api.ScopeImport}},
		Deps: []api.Dep{
			{Artifact: "c", Version: "[1,2)", Type: "war", Classifier: "k", Scope: api.ScopeTest, Optional: 1, Excl: []api.Id{{Group: "*", Artifact: "x"}, {Group: "y", Artifact: "*"}}},
			{Artifact: "d", Optional: 2}},
	}
}

// P7.1, P7.2, P7.3: projects that are read.
func TestRead(t *testing.T) {
	for text, want := range map[string]api.Pom{
		"<project><artifactId>a</artifactId></project>": {Artifact: "a"},
		full: fullPom(),
		"<project><artifactId>a</artifactId><properties/><dependencyManagement/><dependencies/></project>":                                           {Artifact: "a"},
		"<project><artifactId>" + strings.Repeat("x", 1024) + "</artifactId></project>":                                                              {Artifact: strings.Repeat("x", 1024)},
		"<project><artifactId>a</artifactId><dependencies><dependency><artifactId>b</artifactId><exclusions/></dependency></dependencies></project>": {Artifact: "a", Deps: []api.Dep{{Artifact: "b"}}},
	} {
		if p, e, where := Read(built(t, text)); e != api.OK || where != "" || !Same(p, want) {
			t.Errorf("%.80s: %v %d %s", text, p, e, where)
		}
	}
}

const id = "<artifactId>a</artifactId>"

// around lays text into a project that has an id.
func around(text string) string { return "<project>" + id + text + "</project>" }

func depOf(text string) string { return around("<dependencies>" + text + "</dependencies>") }

func managedOf(text string) string {
	return around("<dependencyManagement><dependencies>" + text + "</dependencies></dependencyManagement>")
}

// P7.1, P7.2, P7.3: each error, and where; the first one counts.
func TestErrors(t *testing.T) {
	long := strings.Repeat("x", 1025)
	parent := func(g, a, v string) string { return around("<parent>" + g + a + v + "</parent>") }
	const pg, pa, pv = "<groupId>g</groupId>", "<artifactId>a</artifactId>", "<version>1</version>"
	const good, bad = "<dependency>" + id + "</dependency>", "<dependency/>"
	for _, w := range [][2]string{
		{"<a/>", "a"}, {"<projects/>", "projects"},
		{around("<parent/><parent/><version/>"), "project/parent[2]"}, {parent("", "", ""), "project/parent/groupId"}, {parent(pg, "", ""), "project/parent/artifactId"}, {parent(pg, pa, ""), "project/parent/version"},
		{parent("<groupId>*</groupId>", pa, pv), "project/parent/groupId"}, {parent(pg, "<artifactId>a b</artifactId>", pv), "project/parent/artifactId"}, {parent(pg, pa, "<version>[1]</version>"), "project/parent/version"},
		{parent(pg+pg, "", ""), "project/parent/groupId[2]"}, {parent("<groupId>*</groupId>", "", ""), "project/parent/groupId"}, {parent(pg, pa+pa, ""), "project/parent/artifactId[2]"},
		{"<project/>", "project/artifactId"}, {"<project><artifactId/></project>", "project/artifactId"}, {"<project><artifactId> </artifactId></project>", "project/artifactId"}, {"<project><artifactId>a<b/></artifactId></project>", "project/artifactId"},
		{"<project>" + id + id + "</project>", "project/artifactId[2]"}, {around("<version/>"), "project/version"}, {around("<version>1</version><version>2</version>"), "project/version[2]"}, {around("<version>" + long + "</version>"), "project/version"},
		{"<project><version/><groupId/></project>", "project/groupId"}, {"<project><version/></project>", "project/artifactId"}, {around("<packaging/><version/>"), "project/version"}, {around("<packaging><x/></packaging>"), "project/packaging"},
		{around("<properties><p>1</p><q/><p/></properties>"), "project/properties/p[2]"}, {around("<properties><p>1</p><p><x/></p></properties>"), "project/properties/p[2]"}, {around("<properties><p>" + long + "</p></properties>"), "project/properties/p"},
		{around("<properties><q/><p>1<x/></p></properties>"), "project/properties/p"}, {around("<properties/><properties/>"), "project/properties[2]"}, {around("<properties><p/><p/><p/></properties>"), "project/properties/p[2]"},
		{around("<dependencyManagement/><dependencyManagement/>"), "project/dependencyManagement[2]"}, {around("<dependencyManagement><dependencies/><dependencies/></dependencyManagement>"), "project/dependencyManagement/dependencies[2]"},
		{managedOf(bad), "project/dependencyManagement/dependencies/dependency/artifactId"}, {managedOf(good + good + bad), "project/dependencyManagement/dependencies/dependency[3]/artifactId"},
		{around("<dependencies/><dependencies/>"), "project/dependencies[2]"}, {depOf(good + bad + bad), "project/dependencies/dependency[2]/artifactId"}, {depOf(bad + good), "project/dependencies/dependency[1]/artifactId"}, {depOf(bad), "project/dependencies/dependency/artifactId"},
		{depOf("<dependency>" + id + "<groupId/><version/></dependency>"), "project/dependencies/dependency/groupId"}, {depOf("<dependency>" + id + "<type/><version/></dependency>"), "project/dependencies/dependency/version"},
		{depOf("<dependency>" + id + "<classifier/><type/></dependency>"), "project/dependencies/dependency/type"}, {depOf("<dependency>" + id + "<scope/><classifier/></dependency>"), "project/dependencies/dependency/classifier"},
		{depOf("<dependency>" + id + "<optional/><scope>x</scope></dependency>"), "project/dependencies/dependency/scope"}, {depOf("<dependency>" + id + "<scope>import</scope></dependency>"), "project/dependencies/dependency/scope"},
		{depOf("<dependency>" + id + "<optional>yes</optional></dependency>"), "project/dependencies/dependency/optional"}, {depOf("<dependency>" + id + "<optional>true</optional><optional>true</optional></dependency>"), "project/dependencies/dependency/optional[2]"},
		{depOf("<dependency>" + id + "<exclusions/><exclusions/></dependency>"), "project/dependencies/dependency/exclusions[2]"},
		{depOf("<dependency>" + id + "<exclusions><exclusion><groupId>g</groupId></exclusion></exclusions></dependency>"), "project/dependencies/dependency/exclusions/exclusion/artifactId"},
		{depOf("<dependency>" + id + "<exclusions><exclusion><groupId>g</groupId><artifactId>*</artifactId></exclusion><exclusion><artifactId>a</artifactId></exclusion></exclusions></dependency>"), "project/dependencies/dependency/exclusions/exclusion[2]/groupId"},
		{depOf("<dependency>" + id + "<exclusions><exclusion><groupId>g*</groupId></exclusion></exclusions></dependency>"), "project/dependencies/dependency/exclusions/exclusion/groupId"},
		{around("<dependencies><dependency/></dependencies><dependencyManagement><dependencies><dependency/></dependencies></dependencyManagement><properties><x><y/></x></properties>"), "project/properties/x"},
		{around("<dependencies><dependency/></dependencies><dependencyManagement><dependencies><dependency/></dependencies></dependencyManagement>"), "project/dependencyManagement/dependencies/dependency/artifactId"},
	} {
		if p, e, where := Read(built(t, w[0])); e != api.ErrField || where != w[1] || !Same(p, api.Pom{}) {
			t.Errorf("%.120s: %d %s, not %s", w[0], e, where, w[1])
		}
	}
	if _, e, where := Read(api.Node{Text: "x"}); e != api.ErrField || where != "" {
		t.Error(e, where)
	}
}

func times(n int, kid api.Node) []api.Node {
	var l []api.Node
	for range n {
		l = append(l, kid)
	}
	return l
}

// P7.2, P7.3: lists that are as long as they may be, and longer ones, which count ahead of what stands in them.
func TestLong(t *testing.T) {
	project := func(kids ...api.Node) api.Node {
		return api.Node{Name: "project", Kids: append([]api.Node{{Name: "artifactId", Kids: []api.Node{{Text: "a"}}}}, kids...)}
	}
	el := func(name string, kids ...api.Node) api.Node { return api.Node{Name: name, Kids: kids} }
	a := el("artifactId", api.Node{Text: "a"})
	for where, list := range map[string]func(n int, bad bool) api.Node{
		"project/properties": func(n int, bad bool) api.Node {
			p := el("properties")
			for i := range n {
				p.Kids = append(p.Kids, el("p"+strconv.Itoa(i)))
			}
			if bad {
				p.Kids = append(p.Kids, p.Kids[0])
			}
			return project(p)
		},
		"project/dependencyManagement/dependencies": func(n int, bad bool) api.Node {
			if bad {
				return project(el("dependencyManagement", el("dependencies", times(n+1, el("dependency"))...)))
			}
			return project(el("dependencyManagement", el("dependencies", times(n, el("dependency", a))...)))
		},
		"project/dependencies": func(n int, bad bool) api.Node {
			if bad {
				return project(el("dependencies", times(n+1, el("dependency"))...))
			}
			return project(el("dependencies", times(n, el("dependency", a))...))
		},
		"project/dependencies/dependency/exclusions": func(n int, bad bool) api.Node {
			x := el("exclusion", el("groupId", api.Node{Text: "*"}), el("artifactId", api.Node{Text: "*"}))
			if bad {
				n, x = n+1, el("exclusion")
			}
			return project(el("dependencies", el("dependency", a, el("exclusions", times(n, x)...))))
		},
	} {
		if p, e, at := Read(list(api.MaxList, false)); e != api.OK || !May(p) {
			t.Error(where, e, at)
		}
		if _, e, at := Read(list(api.MaxList, true)); e != api.ErrBig || at != where {
			t.Error(where, e, at)
		}
	}
}

// P7.4: what may be a project.
func TestMay(t *testing.T) {
	var props []api.Prop
	for i := range api.MaxList {
		props = append(props, api.Prop{Name: "p" + strconv.Itoa(i), Value: strings.Repeat("x", 1024)})
	}
	for i, p := range []api.Pom{{Artifact: "a"}, fullPom(), {Artifact: strings.Repeat("x", 1024), Props: props}, {Artifact: "a", Managed: make([]api.Dep, 0)}, {Artifact: "a b\t\xff"}, {Artifact: "a", Deps: []api.Dep{{Artifact: "b", Scope: api.ScopeSystem}}}} {
		if !May(p) {
			t.Error("may", i)
		}
	}
	with := func(change func(p *api.Pom)) api.Pom {
		p := fullPom()
		change(&p)
		return p
	}
	long := strings.Repeat("x", 1025)
	for i, change := range []func(p *api.Pom){
		func(p *api.Pom) { p.HasParent = false }, func(p *api.Pom) { p.Parent = api.Gav{} }, func(p *api.Pom) { p.Parent.Version = "[1]" }, func(p *api.Pom) { p.Artifact = "" }, func(p *api.Pom) { p.Group = " g" },
		func(p *api.Pom) { p.Version = "1\n" }, func(p *api.Pom) { p.Packaging = "\x00" }, func(p *api.Pom) { p.Artifact = long }, func(p *api.Pom) { p.Props[0].Name = "1" }, func(p *api.Pom) { p.Props[0].Name = "" },
		func(p *api.Pom) { p.Props[1].Name = "p" }, func(p *api.Pom) { p.Props[1].Value = long }, func(p *api.Pom) { p.Props[1].Value = "x " }, func(p *api.Pom) { p.Props[1].Value = "\x01" },
		func(p *api.Pom) { p.Props = append(slices.Clone(props), api.Prop{Name: "q"}) }, func(p *api.Pom) { p.Managed[0].Artifact = "" }, func(p *api.Pom) { p.Managed[0].Scope = 7 }, func(p *api.Pom) { p.Managed[0].Scope = -1 },
		func(p *api.Pom) { p.Deps[0].Scope = api.ScopeImport }, func(p *api.Pom) { p.Deps[0].Optional = 3 }, func(p *api.Pom) { p.Deps[0].Optional = -1 }, func(p *api.Pom) { p.Deps[0].Excl[0].Group = "" },
		func(p *api.Pom) { p.Deps[0].Excl[0].Artifact = "a*" }, func(p *api.Pom) { p.Deps[1].Type = " " }, func(p *api.Pom) { p.Deps[1].Version = long }, func(p *api.Pom) { p.Deps[1].Classifier = "\r" }, func(p *api.Pom) { p.Deps[1].Group = "\x02" },
		func(p *api.Pom) {
			for range api.MaxList {
				p.Deps = append(p.Deps, p.Deps[1])
			}
		},
		func(p *api.Pom) {
			for range api.MaxList {
				p.Deps[0].Excl = append(p.Deps[0].Excl, p.Deps[0].Excl[0])
			}
		},
	} {
		if May(with(change)) {
			t.Error("may not", i)
		}
	}
}

// P7.5: the tree of a project, its fields in order; what is the same.
func TestWrite(t *testing.T) {
	p := fullPom()
	p.Deps = append(p.Deps, api.Dep{Excl: []api.Id{{}}})
	const want = "<project><parent><groupId>pg</groupId><artifactId>pa</artifactId><version>1</version></parent><groupId>g${x}</groupId><artifactId>ab</artifactId><version>2</version><packaging>pom</packaging>" +
		"<properties><p>1</p><q.r/><s/></properties><dependencyManagement><dependencies><dependency><groupId>h</groupId><artifactId>b</artifactId><type>pom</type><scope>import</scope></dependency></dependencies></dependencyManagement>" +
		"<dependencies><dependency><artifactId>c</artifactId><version>[1,2)</version><type>war</type><classifier>k</classifier><scope>test</scope><optional>true</optional><exclusions><exclusion><groupId>*</groupId><artifactId>x</artifactId></exclusion>" +
		"<exclusion><groupId>y</groupId><artifactId>*</artifactId></exclusion></exclusions></dependency><dependency><artifactId>d</artifactId><optional>false</optional></dependency><dependency><exclusions><exclusion/></exclusions></dependency></dependencies></project>"
	if got := tree.Print(Write(p)); got != want {
		t.Error(got)
	}
	if got := tree.Print(Write(api.Pom{})); got != "<project/>" {
		t.Error(got)
	}
	a := fullPom()
	if !Same(a, fullPom()) || !SameDep(a.Deps[0], fullPom().Deps[0]) || !Same(api.Pom{Deps: []api.Dep{}}, api.Pom{}) {
		t.Error("same")
	}
	for i, change := range []func(p *api.Pom){
		func(p *api.Pom) { p.HasParent = false }, func(p *api.Pom) { p.Parent.Group = "" }, func(p *api.Pom) { p.Group = "" }, func(p *api.Pom) { p.Artifact = "" }, func(p *api.Pom) { p.Version = "" }, func(p *api.Pom) { p.Packaging = "" },
		func(p *api.Pom) { p.Props[0], p.Props[1] = p.Props[1], p.Props[0] }, func(p *api.Pom) { p.Managed = nil }, func(p *api.Pom) { p.Managed[0].Group = "" }, func(p *api.Pom) { p.Deps[0].Artifact = "" }, func(p *api.Pom) { p.Deps[0].Version = "" },
		func(p *api.Pom) { p.Deps[0].Type = "" }, func(p *api.Pom) { p.Deps[0].Classifier = "" }, func(p *api.Pom) { p.Deps[0].Scope = 0 }, func(p *api.Pom) { p.Deps[0].Optional = 0 }, func(p *api.Pom) { p.Deps[0].Excl[1].Group = "" },
	} {
		b := fullPom()
		change(&b)
		if Same(a, b) || Same(b, a) {
			t.Error(i)
		}
	}
}

func somePom(r *rand.Rand) api.Pom {
	s := func(must bool) string {
		l := []string{"a", "b.c", "${x}", "<&>", "x y", "[1,2)", "\xe4\"'"}
		if !must {
			l = append(l, "", "")
		}
		return l[r.Intn(len(l))]
	}
	deps := func(scopes int) []api.Dep {
		var l []api.Dep
		for range r.Intn(4) {
			d := api.Dep{Group: s(false), Artifact: s(true), Version: s(false), Type: s(false), Classifier: s(false), Scope: r.Intn(scopes), Optional: r.Intn(3)}
			for range r.Intn(3) {
				d.Excl = append(d.Excl, api.Id{Group: []string{"*", "g"}[r.Intn(2)], Artifact: []string{"*", "a"}[r.Intn(2)]})
			}
			l = append(l, d)
		}
		return l
	}
	p := api.Pom{Group: s(false), Artifact: s(true), Version: s(false), Packaging: s(false), Managed: deps(7), Deps: deps(6)}
	if r.Intn(2) == 0 {
		p.HasParent, p.Parent = true, api.Gav{Group: "g", Artifact: "a", Version: "1"}
	}
	for i := range r.Intn(4) {
		p.Props = append(p.Props, api.Prop{Name: "p" + strconv.Itoa(i), Value: s(false)})
	}
	return p
}

// P7.6: what may be, written, is read as the same.
func TestBack(t *testing.T) {
	r := rand.New(rand.NewSource(11))
	for range 5000 {
		p := somePom(r)
		if !May(p) {
			t.Fatal(p)
		}
		if q, e, where := Read(Write(p)); e != api.OK || !Same(p, q) {
			t.Fatal(p, e, where)
		}
		if q, e, where := Read(built(t, tree.Print(Write(p)))); e != api.OK || !Same(p, q) {
			t.Fatal(p, e, where)
		}
	}
}

// P7.7: what stands beside the fields, and their order, change nothing.
func TestBeside(t *testing.T) {
	r := rand.New(rand.NewSource(12))
	listed := func(name string) bool {
		return name == "properties" || name == "dependencies" || name == "exclusions"
	}
	var mix func(n api.Node) api.Node
	mix = func(n api.Node) api.Node {
		kids := append([]api.Node{}, n.Kids...)
		for i := range kids {
			kids[i] = mix(kids[i])
		}
		if len(kids) > 0 && kids[0].Name != "" && n.Name != "properties" {
			if !listed(n.Name) {
				r.Shuffle(len(kids), func(i, j int) { kids[i], kids[j] = kids[j], kids[i] })
			}
			at := r.Intn(len(kids) + 1)
			kids = append(kids[:at:at], append([]api.Node{{Name: "other", Kids: []api.Node{{Name: "groupId"}}}, {Text: "text"}}, kids[at:]...)...)
		}
		n.Kids = kids
		return n
	}
	for range 3000 {
		p := somePom(r)
		if q, e, where := Read(mix(Write(p))); e != api.OK || !Same(p, q) {
			t.Fatal(p, e, where)
		}
	}
}
