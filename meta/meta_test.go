package meta

import (
	"math/rand"
	"slices"
	"strconv"
	"testing"

	"pomace/api"
	"pomace/store"
	"pomace/tree"
)

func of(latest, release string, versions ...string) api.Meta {
	return api.Meta{Id: api.Id{Group: "g", Artifact: "a"}, Versions: versions, Latest: latest, Release: release}
}

// P23.1: snapshots, and what may be a Meta.
func TestMay(t *testing.T) {
	for v, want := range map[string]bool{"1-SNAPSHOT": true, "snapshot": true, "1.snapshot.2": true, "1snapshot2": true, "1": false, "": false, "1-snap": false, "1-snapshots": false, "1-x_snapshot": false} {
		if IsSnapshot(v) != want {
			t.Error(v)
		}
	}
	many := of("1024", "1024")
	for i := range api.MaxList {
		many.Versions = append(many.Versions, strconv.Itoa(i+1))
	}
	for i, m := range []api.Meta{of("1", "1", "1"), of("2-snapshot", "1", "1", "2-snapshot"), of("1-snapshot", "", "1-snapshot"), of("1", "1", "1.0", "1"), many} {
		if !May(m) {
			t.Error("may", i)
		}
	}
	more := many
	more.Versions = append(slices.Clone(many.Versions), "1025")
	more.Latest, more.Release = "1025", "1025"
	noGroup, noArtifact := of("1", "1", "1"), of("1", "1", "1")
	noGroup.Id.Group, noArtifact.Id.Artifact = "", "a b"
	for i, m := range []api.Meta{
		{}, of("", ""), of("1", "2", "1", "2"), of("2", "1", "1", "2"), of("1", "", "1"), of("2", "2", "2", "1"), of("1", "1", "1", "1"), of("1.0", "1", "1", "1.0"), of("1-snapshot", "1-snapshot", "1-snapshot"),
		of("[1]", "[1]", "[1]"), of("1", "1", "", "1"), more, noGroup, noArtifact,
	} {
		if May(m) {
			t.Error("may not", i)
		}
	}
}

func filled(t *testing.T, versions ...string) *store.Store {
	s := store.New()
	for _, v := range versions {
		if s.Put(api.Gav{Group: "g", Artifact: "a", Version: v}, "") != api.OK {
			t.Fatal(v)
		}
	}
	return s
}

// P23.2: what a store has.
func TestOf(t *testing.T) {
	id := api.Id{Group: "g", Artifact: "a"}
	if m, ok := Of(filled(t, "2-snapshot", "1", "0.9"), id); !ok || !Same(m, of("2-snapshot", "1", "0.9", "1", "2-snapshot")) {
		t.Error(m)
	}
	for _, s := range []*store.Store{nil, store.New(), filled(t, "1")} {
		if m, ok := Of(s, api.Id{Group: "g", Artifact: "b"}); ok || !Same(m, api.Meta{}) {
			t.Error(m)
		}
	}
}

// P23.3: as a tree.
func TestWrite(t *testing.T) {
	const want = "<metadata><groupId>g</groupId><artifactId>a</artifactId><versioning><latest>2-snapshot</latest><release>1</release><versions><version>1</version><version>2-snapshot</version></versions></versioning></metadata>"
	if got := tree.Print(Write(of("2-snapshot", "1", "1", "2-snapshot"))); got != want {
		t.Error(got)
	}
	if got := tree.Print(Write(of("1-snapshot", "", "1-snapshot"))); got != "<metadata><groupId>g</groupId><artifactId>a</artifactId><versioning><latest>1-snapshot</latest><versions><version>1-snapshot</version></versions></versioning></metadata>" {
		t.Error(got)
	}
}

// P23.3: what is read, and each error.
func TestRead(t *testing.T) {
	const g, a = "<groupId> g </groupId>", "<artifactId>a</artifactId>"
	const l, r, v = "<latest>1</latest>", "<release>1</release>", "<versions>x<version>1</version><y/></versions>"
	in := func(s string) string { return "<metadata>" + g + a + "<versioning>" + s + "</versioning></metadata>" }
	for _, w := range [][2]string{
		{in(l + r + v), ""}, {"<metadata>x<y/><versioning>" + v + "<z/>" + r + l + "</versioning>" + a + g + "</metadata>", ""}, {in("<latest>1<x/></latest>" + r + v), ""},
		{"<meta/>", "meta"}, {"<metadata/>", "metadata/groupId"}, {"<metadata>" + g + g + "</metadata>", "metadata/groupId"}, {"<metadata><groupId>*</groupId></metadata>", "metadata/groupId"}, {"<metadata><groupId>g<x/></groupId></metadata>", "metadata/groupId"},
		{"<metadata>" + g + "</metadata>", "metadata/artifactId"}, {"<metadata>" + g + "<artifactId/></metadata>", "metadata/artifactId"}, {"<metadata>" + g + a + "</metadata>", "metadata/versioning"},
		{"<metadata>" + g + a + "<versioning/><versioning/></metadata>", "metadata/versioning"}, {in(""), "metadata/versioning/latest"}, {in(l + l + r + v), "metadata/versioning/latest"}, {in(l + r + r), "metadata/versioning/release"},
		{in(l + r), "metadata/versioning/versions"}, {in(l + r + v + v), "metadata/versioning/versions"}, {in(l + v), "metadata"}, {in(l + r + "<versions/>"), "metadata"}, {in("<latest>2</latest>" + r + v), "metadata"}, {in("<latest/>" + r + v), "metadata"},
		{in(l + r + "<versions><version>1</version><version>1</version></versions>"), "metadata"}, {in(l + r + "<versions><version>2</version><version>1</version></versions>"), "metadata"}, {in(l + "<release>2</release>" + v), "metadata"},
	} {
		n, _, _ := tree.Build(w[0])
		m, e, where := Read(n)
		if w[1] == "" {
			if e != api.OK || where != "" || !Same(m, of("1", "1", "1")) {
				t.Error(w[0], m, e, where)
			}
		} else if e != api.ErrField || where != w[1] || !Same(m, api.Meta{}) {
			t.Error(w[0], e, where)
		}
	}
	if _, e, where := Read(api.Node{Text: "x"}); e != api.ErrField || where != "" {
		t.Error(e, where)
	}
}

// P23.4: two merged; what is the same.
func TestMerge(t *testing.T) {
	a, b := of("2", "2", "1.0", "2"), of("3-snapshot", "2", "1", "1.0", "2", "3-snapshot")
	if m, ok := Merge(a, b); !ok || !Same(m, of("3-snapshot", "2", "1.0", "1", "2", "3-snapshot")) {
		t.Error(m)
	}
	other := a
	other.Id.Group = "h"
	for i, m := range []api.Meta{{}, other, of("2", "1", "1", "2")} {
		for _, p := range [][2]api.Meta{{a, m}, {m, a}} {
			if got, ok := Merge(p[0], p[1]); ok || !Same(got, api.Meta{}) {
				t.Error(i, got)
			}
		}
	}
	for i, m := range []api.Meta{other, of("2", "2", "2"), of("1.0", "2", "1.0", "2"), of("2", "1.0", "1.0", "2"), of("2", "2", "2", "1.0")} {
		if Same(a, m) {
			t.Error(i)
		}
	}
}

// P23.5, P23.6: reading back; what a store has, merged.
func TestFollows(t *testing.T) {
	all := []string{"1", "1.0", "2", "2-rc", "3-SNAPSHOT", "3-snapshot.0", "10", "1-ga", "x"}
	r := rand.New(rand.NewSource(18))
	some := func() api.Meta {
		l := slices.Clone(all)
		r.Shuffle(len(l), func(i, j int) { l[i], l[j] = l[j], l[i] })
		m, ok := Of(filled(t, l[:1+r.Intn(len(l))]...), api.Id{Group: "g", Artifact: "a"})
		if !ok || !May(m) {
			t.Fatal(m)
		}
		return m
	}
	for range 2000 {
		a, b := some(), some()
		if c, e, where := Read(Write(a)); e != api.OK || !Same(a, c) {
			t.Fatal(a, e, where)
		}
		if c, ok := Merge(a, a); !ok || !Same(a, c) {
			t.Fatal(a, c)
		}
		c, _ := Merge(a, b)
		d, _ := Merge(b, a)
		slices.Sort(c.Versions)
		slices.Sort(d.Versions)
		if !slices.Equal(c.Versions, d.Versions) {
			t.Fatal(a, b)
		}
	}
}
