package model

import (
	"math/rand"
	"slices"
	"strconv"
	"strings"
	"testing"

	"pomace/api"
	"pomace/bounds"
	"pomace/chain"
	"pomace/coord"
	"pomace/sample"
	"pomace/store"
)

// dep writes a dependency: group:artifact, a version, more.
func dep(id, v, more string) string {
	g, a, _ := strings.Cut(id, ":")
	s := "<dependency><groupId>" + g + "</groupId><artifactId>" + a + "</artifactId>" + more
	if v != "" {
		s += "<version>" + v + "</version>"
	}
	return s + "</dependency>"
}

func imp(id, v string) string { return dep(id, v, "<type>pom</type><scope>import</scope>") }

func props(l ...string) string {
	s := ""
	for i := 0; i < len(l); i += 2 {
		s += "<" + l[i] + ">" + l[i+1] + "</" + l[i] + ">"
	}
	return "<properties>" + s + "</properties>"
}

func told(m api.Model) string {
	var out []string
	for _, n := range m.Needs {
		s := coord.PrintKey(n.Key) + " " + bounds.Print(n.Range) + " " + coord.Word(n.Scope)
		if n.Optional {
			s += " optional"
		}
		for _, x := range n.Excl {
			s += " -" + x.Group + ":" + x.Artifact
		}
		out = append(out, s)
	}
	return strings.Join(out, ", ")
}

func toldManaged(m api.Model) string {
	var out []string
	for _, d := range m.Managed {
		out = append(out, d.Artifact+" "+d.Version)
	}
	return strings.Join(out, ", ")
}

func build(t *testing.T, s *store.Store, g string) api.Model {
	m, problem := New(s).Build(sample.Gav(g))
	if problem != (api.Problem{}) {
		t.Fatal(g, problem)
	}
	return m
}

// P11.1: steps 1 to 5: names, packaging, properties.
func TestNames(t *testing.T) {
	s := store.New()
	s.Put(sample.Gav("g:p:1"), sample.Project("g:p:1", props("rev", "7", "x", "${project.artifactId}-${project.parent.version}-${u}")))
	s.Put(sample.Gav("g:c:7"), "<project><parent><groupId>g</groupId><artifactId>p</artifactId><version>1</version></parent><artifactId>${name}</artifactId><version>${rev}</version><packaging>${pack}</packaging>"+props("name", "c", "pack", "war", "project.version", "lost")+"</project>")
	s.Put(sample.Gav("g:e:1"), sample.Project("g:e:1", "<packaging>${none}</packaging>"+props("none", "")))
	m := build(t, s, "g:c:7")
	want := []api.Prop{{Name: "rev", Value: "7"}, {Name: "x", Value: "c-1-${u}"}, {Name: "name", Value: "c"}, {Name: "pack", Value: "war"}, {Name: "project.version", Value: "7"}, {Name: "project.groupId", Value: "g"}, {Name: "project.artifactId", Value: "c"},
		{Name: "project.parent.groupId", Value: "g"}, {Name: "project.parent.artifactId", Value: "p"}, {Name: "project.parent.version", Value: "1"}}
	if m.Gav != sample.Gav("g:c:7") || m.Packaging != "war" || !slices.Equal(m.Props, want) {
		t.Error(m)
	}
	if m := build(t, s, "g:e:1"); m.Packaging != "jar" {
		t.Error(m.Packaging)
	}
	if m := build(t, s, "g:p:1"); m.Packaging != "jar" || len(m.Props) != 5 || m.Props[1].Value != "p-${project.parent.version}-${u}" {
		t.Error(m)
	}
}

// P11.1: each problem, and which counts.
func TestProblems(t *testing.T) {
	big := strings.Repeat("x", 1024)
	huge := props("b", big, "c", "${b}${b}${b}${b}${b}")
	for _, w := range []struct {
		text  string
		e     api.Errno
		where string
	}{
		{"<project><groupId>g</groupId><artifactId>a</artifactId><version>2</version></project>", api.ErrField, "project/version"},
		{"<project><artifactId>a</artifactId><version>1</version></project>", api.ErrField, "project/groupId"},
		{"<project><groupId>g</groupId><artifactId>${project.artifactId}</artifactId></project>", api.ErrProp, "project/artifactId"},
		{"<project><groupId>h</groupId><artifactId>${x}</artifactId><properties><x>${x}</x></properties></project>", api.ErrField, "project/groupId"},
		{"<project><groupId>g</groupId><artifactId>a</artifactId><version>${c}</version>" + huge + "</project>", api.ErrBig, "project/version"},
		{sample.Project("g:a:1", "<packaging>${x}</packaging>"+props("x", "${x}")), api.ErrProp, "project/packaging"},
		{sample.Project("g:a:1", "<packaging>a b</packaging>"), api.ErrField, "project/packaging"},
		{sample.Project("g:a:1", "<packaging>${x}</packaging>"), api.ErrField, "project/packaging"},
		{sample.Project("g:a:1", props("x", "${y}", "y", "${x}")), api.ErrProp, "project/properties"},
		{sample.Project("g:a:1", huge), api.ErrBig, "project/properties"},
		{sample.Project("g:a:1", sample.Managed(dep("g:b", "", ""), dep("g:*", "", ""))), api.ErrField, "managed[2]/artifactId"},
		{sample.Project("g:a:1", sample.Managed("<dependency><artifactId>b</artifactId></dependency>")), api.ErrField, "managed[1]/groupId"},
		{sample.Project("g:a:1", sample.Managed(dep("g:b", "[1", ""))), api.ErrRange, "managed[1]/version"},
		{sample.Project("g:a:1", sample.Managed(dep("g:b", "${u}", ""))), api.ErrRange, "managed[1]/version"},
		{sample.Project("g:a:1", sample.Managed(dep("g:b", "", "<type>${e}</type>"))+props("e", "")), api.ErrField, "managed[1]/type"},
		{sample.Project("g:a:1", sample.Managed(dep("g:b", "", "<classifier>a b</classifier>"))), api.ErrField, "managed[1]/classifier"},
		{sample.Project("g:a:1", sample.Managed(dep("g:b", "[", "<type>*</type>"))), api.ErrRange, "managed[1]/version"},
		{sample.Project("g:a:1", sample.Managed(dep("g:b", "1", "<scope>import</scope>"))), api.ErrField, "managed[1]/scope"},
		{sample.Project("g:a:1", sample.Managed(dep("g:b", "1", "<type>pom</type><classifier>c</classifier><scope>import</scope>"))), api.ErrField, "managed[1]/scope"},
		{sample.Project("g:a:1", sample.Managed(imp("g:b", "[1]"))), api.ErrField, "managed[1]/scope"},
		{sample.Project("g:a:1", sample.Managed(imp("g:b", ""))), api.ErrField, "managed[1]/scope"},
		{sample.Project("g:a:1", sample.Managed(imp("g:a", "1"), dep("g:*", "", ""))), api.ErrField, "managed[2]/artifactId"},
		{sample.Project("g:a:1", sample.Managed(dep("g:b", "", ""), imp("g:a", " 1 "))), api.ErrBom, "managed[2]"},
		{sample.Project("g:a:1", sample.Deps(dep("g:b", "", ""))), api.ErrFree, "dependency[1]/version"},
		{sample.Project("g:a:1", sample.Deps(dep("g:b", "1", ""), dep("g:b", "", ""))), api.ErrFree, "dependency[2]/version"},
		{sample.Project("g:a:1", sample.Deps(dep("g:b", "1", ""), dep("g:b", "1", "<type>jar+</type>"))), api.ErrField, "dependency[2]/type"},
		{sample.Project("g:a:1", sample.Deps(dep("g:b", "${e}", ""))+props("e", "")), api.ErrFree, "dependency[1]/version"},
		{sample.Project("g:a:1", sample.Deps(dep("g:b", "(1)", ""))), api.ErrRange, "dependency[1]/version"},
	} {
		s := store.New()
		s.Put(sample.Gav("g:a:1"), w.text)
		m, problem := New(s).Build(sample.Gav("g:a:1"))
		if problem != (api.Problem{Err: w.e, Gav: sample.Gav("g:a:1"), Where: w.where}) || !Same(m, api.Model{}) {
			t.Errorf("%.200s: %v", w.text, problem)
		}
	}
	s := sample.Store("g:a:1", sample.Managed(imp("g:b", "1")), "g:b:1", sample.Deps(dep("x:y", "", "")), "g:c:1", sample.Managed(imp("g:d", "1")), "g:d:1", sample.Managed(imp("g:c", "1")), "g:e:1", sample.Managed(imp("g:f", "1")))
	for g, want := range map[string]api.Problem{
		"g:a:1": {Err: api.ErrFree, Gav: sample.Gav("g:b:1"), Where: "dependency[1]/version"}, "g:c:1": {Err: api.ErrBom, Gav: sample.Gav("g:d:1"), Where: "managed[1]"}, "g:e:1": {Err: api.ErrPom, Gav: sample.Gav("g:f:1")}, "g:z:1": {Err: api.ErrPom, Gav: sample.Gav("g:z:1")},
	} {
		if _, problem := New(s).Build(sample.Gav(g)); problem != want {
			t.Error(g, problem)
		}
	}
}

// P11.1: step 6: what is managed, and what is imported.
func TestManaged(t *testing.T) {
	s := sample.Store(
		"g:a:1", sample.Managed(dep("m:x", "1", ""), imp("g:b", "1"), dep("m:x", "2", ""), dep("m:${y}", "[1,2)", "<type>jar</type>"), imp("g:c", "1"))+props("y", "y"),
		"g:b:1", sample.Managed(dep("m:y", "3", ""), imp("g:d", "1"), dep("m:z", "4", "")),
		"g:c:1", sample.Managed(dep("m:z", "5", ""), dep("m:z", "6", "<type>war</type>"), dep("m:w", "7", "")),
		"g:d:1", sample.Managed(dep("m:w", "8", "")))
	if got := toldManaged(build(t, s, "g:a:1")); got != "x 1, y [1,2), z 4, w 8, z 6" {
		t.Error(got)
	}
	many := func(n int, a string) string {
		var l []string
		for i := range n {
			l = append(l, "<dependency><groupId>g</groupId><artifactId>"+a+strconv.Itoa(i)+"</artifactId></dependency>")
		}
		return strings.Join(l, "")
	}
	s = sample.Store("g:a:1", sample.Managed(many(600, "x")+imp("g:b", "1")), "g:b:1", sample.Managed(many(600, "y")), "g:c:1", sample.Managed(many(600, "y")+imp("g:b", "1")), "g:d:1", sample.Managed(many(600, "x")+imp("g:e", "1")), "g:e:1", sample.Managed(many(424, "y")))
	if _, problem := New(s).Build(sample.Gav("g:a:1")); problem != (api.Problem{Err: api.ErrBig, Gav: sample.Gav("g:a:1"), Where: "managed"}) {
		t.Error(problem)
	}
	if len(build(t, s, "g:c:1").Managed) != 600 || len(build(t, s, "g:d:1").Managed) != api.MaxList {
		t.Error("many")
	}
}

// imports makes a store of n projects, each of which imports the next.
func imports(t *testing.T, n int) *store.Store {
	var l []string
	for i := 1; i < n; i++ {
		l = append(l, "g:a:"+strconv.Itoa(i), sample.Managed(imp("g:a", strconv.Itoa(i+1))))
	}
	return sample.Store(append(l, "g:a:"+strconv.Itoa(n), "")...)
}

// P11.1, P11.3: imports within one another, and what is remembered of them.
func TestDeep(t *testing.T) {
	b := New(imports(t, 33))
	if _, problem := b.Build(sample.Gav("g:a:1")); problem != (api.Problem{Err: api.ErrBig, Gav: sample.Gav("g:a:32"), Where: "managed[1]"}) || b.Built() != 0 {
		t.Error(problem, b.Built())
	}
	if _, problem := b.Build(sample.Gav("g:a:2")); problem != (api.Problem{}) || b.Built() != 32 {
		t.Error(problem, b.Built())
	}
	if _, problem := b.Build(sample.Gav("g:a:1")); problem != (api.Problem{}) || b.Built() != 33 {
		t.Error(problem, b.Built())
	}
}

// P11.1: step 7: needs, managed and not.
func TestNeeds(t *testing.T) {
	excl := func(g, a string) string {
		return "<exclusions><exclusion><groupId>" + g + "</groupId><artifactId>" + a + "</artifactId></exclusion></exclusions>"
	}
	s := sample.Store("g:a:1",
		props("v", "[1,2)", "c", "src", "t", "war", "e", "")+
			sample.Managed(dep("g:b", "${v}", ""), dep("g:c", "3", "<scope>test</scope><optional>true</optional>"+excl("*", "x")))+
			sample.Deps(dep("g:b", "", ""), dep("g:c", "", ""), dep("g:c", "4", ""), dep("g:c", "5", "<type>${t}</type><classifier>${c}</classifier>"), dep("g:c", " 6 ", "<classifier>${e}</classifier>"), dep("g:d", "1", "<scope>runtime</scope><optional>true</optional>"),
				dep("${project.groupId}:e", "(,2]", "<optional>false</optional>"+excl("g", "*"))))
	want := "g:b:jar [1,2) compile, g:c:jar 3 test optional -*:x, g:c:war:src 5 compile, g:d:jar 1 runtime optional, g:e:jar (,2] compile -g:*"
	if got := told(build(t, s, "g:a:1")); got != want {
		t.Error(got)
	}
}

// P11.2: what is managed of a dependency.
func TestManage(t *testing.T) {
	x, y := []api.Id{{Group: "x", Artifact: "*"}}, []api.Id{{Group: "y", Artifact: "*"}}
	l := []api.Dep{{Group: "g", Artifact: "b", Version: "0"}, {Group: "g", Artifact: "a", Type: "jar", Version: "2", Scope: 5, Optional: 2, Excl: y}, {Group: "g", Artifact: "a", Version: "3"}}
	d := Manage(api.Dep{Group: "g", Artifact: "a"}, l)
	if d.Version != "2" || d.Scope != 5 || d.Optional != 2 || !slices.Equal(d.Excl, y) || d.Type != "" {
		t.Error(d)
	}
	d.Excl[0].Group = "z"
	if y[0].Group != "y" {
		t.Error("shared")
	}
	d = Manage(api.Dep{Group: "g", Artifact: "a", Version: "1", Scope: 1, Optional: 1, Excl: x}, l)
	if d.Version != "1" || d.Scope != 1 || d.Optional != 1 || !slices.Equal(d.Excl, x) {
		t.Error(d)
	}
	if d := Manage(api.Dep{Group: "g", Artifact: "a", Type: "war"}, l); d.Version != "" || d.Type != "war" {
		t.Error(d)
	}
	if d := Manage(api.Dep{Group: "g"}, nil); d.Group != "g" {
		t.Error(d)
	}
}

// P11.3: what is remembered, what is the same, and a nil builder.
func TestBuilder(t *testing.T) {
	s := sample.Store("g:a:1", sample.Managed(imp("g:b", "1"), dep("m:z", "1", "")), "g:b:1", sample.Managed(dep("m:x", "1", "<exclusions><exclusion><groupId>*</groupId><artifactId>*</artifactId></exclusion></exclusions>"))+sample.Deps(dep("m:x", "[1]", "")), "g:c:1", sample.Deps(dep("g:x", "", "")), "g:d:1", sample.Managed(imp("g:b", "1"), imp("g:c", "1")))
	b := New(s)
	b.Build(sample.Gav("g:d:1"))
	if b.Built() != 1 {
		t.Error(b.Built())
	}
	m, _ := b.Build(sample.Gav("g:a:1"))
	asks := s.Asks()
	n, problem := b.Build(sample.Gav("g:a:1"))
	if b.Built() != 2 || problem != (api.Problem{}) || !Same(m, n) || s.Asks() != asks {
		t.Error(b.Built(), problem)
	}
	x, _ := b.Build(sample.Gav("g:b:1"))
	y, _ := b.Build(sample.Gav("g:b:1"))
	x.Props[0].Value, x.Managed[0].Excl[0].Group, x.Needs[0].Range.Parts[0].Lo.Version, x.Needs[0].Excl[0].Group = "?", "?", "?", "?"
	z, _ := b.Build(sample.Gav("g:b:1"))
	if fresh := build(t, s, "g:b:1"); Same(x, y) || !Same(y, fresh) || !Same(z, fresh) {
		t.Error("kept")
	}
	for i, change := range []func(m *api.Model){
		func(m *api.Model) { m.Gav.Group = "" }, func(m *api.Model) { m.Packaging = "" }, func(m *api.Model) { m.Props = nil }, func(m *api.Model) { m.Managed[0].Version = "" }, func(m *api.Model) { m.Needs[0].Key.Type = "" },
		func(m *api.Model) { m.Needs[0].Range = api.Range{} }, func(m *api.Model) { m.Needs[0].Scope = 2 }, func(m *api.Model) { m.Needs[0].Optional = true }, func(m *api.Model) { m.Needs[0].Excl = nil },
	} {
		z, _ := b.Build(sample.Gav("g:b:1"))
		change(&z)
		if Same(y, z) || i > 3 && SameNeed(y.Needs[0], z.Needs[0]) {
			t.Error(i)
		}
	}
	var none *Builder
	if m, problem := none.Build(sample.Gav("g:a:1")); problem != (api.Problem{Err: api.ErrPom, Gav: sample.Gav("g:a:1")}) || !Same(m, api.Model{}) || none.Built() != 0 {
		t.Error(problem)
	}
	if _, problem := New(nil).Build(sample.Gav("g:a:1")); problem != (api.Problem{Err: api.ErrPom, Gav: sample.Gav("g:a:1")}) {
		t.Error(problem)
	}
}

// someStore: projects that need, manage, import and descend from others at random.
func someStore(t *testing.T, r *rand.Rand) *store.Store {
	s := store.New()
	names := []string{"a", "b", "c", "d", "e"}
	some := func(n int, v func() string, more func() string) string {
		var l []string
		for range r.Intn(n) {
			l = append(l, dep("g:"+names[r.Intn(5)], v(), more()))
		}
		return strings.Join(l, "")
	}
	v := func() string { return []string{"", "1", "[1,2)", "${v}", "${w}", "${u}", "["}[min(r.Intn(30), 6)%6] }
	more := func() string { return []string{"", "<scope>test</scope>", "<type>${w}</type>"}[r.Intn(3)] }
	for i, a := range names {
		in := props("v", "1.${w}", "w", []string{"2", "${p}"}[r.Intn(2)]) + sample.Managed(some(5, v, more)) + sample.Deps(some(3, v, more))
		if i < 4 && r.Intn(3) == 0 {
			in = strings.Replace(in, "</dependencies></dependencyManagement>", imp("g:"+names[i+1+r.Intn(4-i)], "1")+"</dependencies></dependencyManagement>", 1)
		}
		if r.Intn(3) == 0 {
			in += "<parent><groupId>g</groupId><artifactId>" + names[r.Intn(5)] + "</artifactId><version>1</version></parent>"
		}
		s.Put(sample.Gav("g:"+a+":1"), sample.Project("g:"+a+":1", in))
	}
	return s
}

// P11.4, P11.5: what was built may be; what was built ahead changes nothing.
func TestFollows(t *testing.T) {
	r := rand.New(rand.NewSource(19))
	good := 0
	for range 5000 {
		s := someStore(t, r)
		b := New(s)
		for _, a := range []string{"g:c:1", "g:a:1", "g:b:1", "g:a:1"} {
			m, problem := b.Build(sample.Gav(a))
			if n, other := New(s).Build(sample.Gav(a)); other != problem || !Same(m, n) {
				t.Fatal(problem, other)
			}
			if problem != (api.Problem{}) {
				continue
			}
			good++
			keys := map[api.Key]bool{}
			for _, n := range m.Needs {
				if keys[n.Key] || !coord.MayKey(n.Key) || !bounds.May(n.Range) || coord.Word(n.Scope) == "" {
					t.Fatal(n)
				}
				keys[n.Key] = true
			}
			keys = map[api.Key]bool{}
			for _, d := range m.Managed {
				if _, e := bounds.Parse(d.Version); keys[chain.Key(d)] || !coord.MayKey(chain.Key(d)) || d.Version != "" && e != api.OK || d.Scope == api.ScopeImport {
					t.Fatal(d)
				}
				keys[chain.Key(d)] = true
			}
		}
	}
	if good < 2000 {
		t.Error(good)
	}
}

// P11.6: own words count ahead of what is managed, that ahead of what is imported.
func TestWhoCounts(t *testing.T) {
	s := sample.Store("g:a:1", sample.Managed(dep("m:x", "2", ""), imp("g:b", "1"))+sample.Deps(dep("m:x", "1", ""), dep("m:x", "", "<type>war</type>"), dep("m:y", "", ""), dep("m:z", "", "")),
		"g:b:1", sample.Managed(dep("m:x", "3", ""), dep("m:x", "4", "<type>war</type>"), dep("m:y", "5", ""), dep("m:z", "6", "")))
	s.Put(sample.Gav("g:c:1"), "<project><parent><groupId>g</groupId><artifactId>a</artifactId><version>1</version></parent><artifactId>c</artifactId>"+sample.Managed(dep("m:z", "7", ""))+"</project>")
	if got := told(build(t, s, "g:a:1")); got != "m:x:jar 1 compile, m:x:war 4 compile, m:y:jar 5 compile, m:z:jar 6 compile" {
		t.Error(got)
	}
	if got := told(build(t, s, "g:c:1")); got != "m:x:jar 1 compile, m:x:war 4 compile, m:y:jar 5 compile, m:z:jar 7 compile" {
		t.Error(got)
	}
}
