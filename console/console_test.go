package console

import (
	"math/rand"
	"slices"
	"strings"
	"testing"

	"pomace/api"
	"pomace/bounds"
	"pomace/coord"
	"pomace/engine"
	"pomace/paths"
	"pomace/sample"
	"pomace/store"
	"pomace/version"
)

// P20.1: words of a line.
func TestSplit(t *testing.T) {
	for line, want := range map[string][2]string{
		"": {"", ""}, " \t\r\n": {"", ""}, "a": {"a", ""}, " a ": {"a", ""}, "\ta\nb  c\r ": {"a", "b  c"}, "a\vb c": {"a\vb", "c"}, "put  g  <a> </a>\n": {"put", "g  <a> </a>"},
	} {
		if word, rest := Split(line); word != want[0] || rest != want[1] {
			t.Errorf("%q: %q %q", line, word, rest)
		}
	}
	if got := Words(" a\tbc \r\n d "); !slices.Equal(got, []string{"a", "bc", "d"}) || len(Words(" ")) > 0 {
		t.Error(got)
	}
}

// project writes a project that needs others, a semicolon between two: artifact and version.
func project(name, needs string) string {
	return sample.Project(name, sample.Needs(needs))
}

// dialog says lines, and holds the answers against those behind them.
func dialog(t *testing.T, c *Console, l ...string) {
	for i := 0; i+1 < len(l); i += 2 {
		if got := c.Say(l[i]); got != l[i+1] {
			t.Errorf("%q: %q, not %q", l[i], got, l[i+1])
		}
	}
}

// filled makes a console with the projects of a store.
func filled(t *testing.T, from *store.Store) *Console {
	c := New()
	for _, g := range from.All() {
		text, _ := from.Text(g)
		dialog(t, c, "put "+coord.PrintGav(g)+" "+text, "ok")
	}
	return c
}

// P20.2: each line.
func TestSay(t *testing.T) {
	c := filled(t, sample.Broken())
	dialog(t, c,
		"", "", " \t", "", "# x", "", "#report", "",
		"problem", "no root", "path compile", "no root", "files test", "no root", "report", "no root", "breaches", "no root", "find", "no root", "why g:a:jar", "no root",
		"root g:a:1", "ok", "problem", "ok", "report", "g:a:jar:1\n  g:b:jar:1 compile\n    g:d:jar:1 compile\n  g:c:jar:1 compile\n    g:d:jar:2 compile loses to 1",
		"path compile", "g:b:jar:1\ng:d:jar:1\ng:c:jar:1", " path\tsystem ", "", "files runtime", "g/b/1/b-1.jar\ng/d/1/d-1.jar\ng/c/1/c-1.jar", "breaches", "g:d:jar 1 1.0 [2]", "find", "found\ng:a:jar:1\ng:b:jar:2\ng:c:jar:1\ng:d:jar:2",
		"why g:d:jar", "g:a:jar:1 1\ng:b:jar:1 1\ng:d:jar:1 [1]", "why g:x:jar", "", "most 0", "ok", "most 999999", "ok",
		"projects", "g:a:1\ng:b:1\ng:b:2\ng:c:1\ng:d:1\ng:d:2", "versions g:b", "1\n2", "versions g:x", "", "text g:d:2", sample.Project("g:d:2"), "text g:d:3", "none",
		"put g:e:1", "ok", "text g:e:1", "", "put g:e:1 x", "error 4", "put g:f:1 \t a  b\n c ", "ok", "text g:f:1", "a  b\n c",
		"compare 1.0 1.1", "below", "compare 1.0 1", "same", "compare [ ä", "below", "compare 2 1", "above", "in [1,2) 2", "no", "in [1,2) 1.5", "yes", "in [1,2 2", "error 21", "in 1 x", "yes",
		"model g:d:1", "jar", "model g:a:1", "jar\ng:b:jar 1 compile\ng:c:jar 1 compile", "model g:e:1", "error 16 g:e:1 at 1:1", "model g:z:1", "error 25 g:z:1",
	)
}

// P20.2: what isn't understood.
func TestWhat(t *testing.T) {
	c := filled(t, sample.Broken())
	for _, line := range []string{
		"x", "Put g:a:1", "put", "put g:a", "put g:a: x", "root", "root g:a", "root g:a:1 x", "root g:a:[1]", "most", "most x", "most 01", "most 1000000", "most -1", "most 1 2", "most +1", "projects x", "versions", "versions g", "versions g:a:1", "versions g:*", "versions :a", "versions g:a x",
		"text", "text g:a", "text g:a:1 x", "compare 1", "compare 1 2 3", "compare", "in [1]", "in [1] 1 2", "in [1, 2] 1", "model", "model g:a", "model g:a:1 x", "problem x", "path", "path import", "path Compile", "path compile x", "files", "files x", "report x", "breaches x", "find x", "why", "why g:a", "why g:a:jar:", "why g:a:jar x", "ok",
	} {
		if got := c.Say(line); got != "what?" {
			t.Errorf("%q: %q", line, got)
		}
	}
	dialog(t, c, "root g:a:1", "ok", "path x", "what?", "report x", "what?", "root g:b", "what?", "path compile", "g:b:jar:1\ng:d:jar:1\ng:c:jar:1")
}

// P20.2: models, findings and problems as they are told.
func TestTold(t *testing.T) {
	c := New()
	const more = "<scope>test</scope><optional>true</optional><exclusions><exclusion><groupId>*</groupId><artifactId>x</artifactId></exclusion><exclusion><groupId>g</groupId><artifactId>y</artifactId></exclusion></exclusions>"
	dialog(t, c,
		"put g:a:1 "+sample.Project("g:a:1", "<packaging>war</packaging>", sample.Deps(sample.Dep("g:b [1,2)", more), sample.Dep("g:c 1"))), "ok",
		"model g:a:1", "war\ng:b:jar [1,2) test optional without *:x without g:y\ng:c:jar 1 compile",
		"root g:a:1", "ok", "problem", "error 27 g:a:1 g:b:jar", "report", "error 27 g:a:1 g:b:jar", "path test", "error 27 g:a:1 g:b:jar", "files test", "error 27 g:a:1 g:b:jar", "breaches", "error 27 g:a:1 g:b:jar", "find", "error 27 g:a:1 g:b:jar", "why g:a:jar", "error 27 g:a:1 g:b:jar",
		"put g:b:1 <a>", "ok", "put g:c:1 <a>", "ok", "problem", "error 13 g:b:1 at 1:4",
	)
	c = filled(t, sample.Never())
	dialog(t, c,
		"root g:a:1", "ok", "most 0", "ok", "find", "open", "most 9", "ok", "find", "never 1")
}

// P20.3: problems.
func TestTell(t *testing.T) {
	g := api.Gav{Group: "g", Artifact: "a", Version: "1"}
	for want, p := range map[string]api.Problem{
		"ok": {}, "error 25 ::": {Err: api.ErrPom}, "error 25 g:a:1": {Err: api.ErrPom, Gav: g}, "error 20 g:a:1 project/x": {Err: api.ErrField, Gav: g, Where: "project/x"}, "error 14 g:a:1 at 3:7": {Err: api.ErrTag, Gav: g, Place: api.Place{Off: 9, Line: 3, Col: 7}},
		"error 0 :: x at 0:1": {Where: "x", Place: api.Place{Col: 1}},
	} {
		if got := Tell(p); got != want {
			t.Error(got, want)
		}
	}
}

// P20.4: what was asked is asked anew behind a put; the store; a nil console.
func TestAnew(t *testing.T) {
	c := New()
	dialog(t, c, "root g:a:1", "ok", "problem", "error 25 g:a:1", "put g:a:1 "+project("g:a:1", "b [1,9]"), "ok", "problem", "error 27 g:a:1 g:b:jar", "put g:b:1 "+project("g:b:1", ""), "ok", "path compile", "g:b:jar:1", "put g:b:2 "+project("g:b:2", ""), "ok", "path compile", "g:b:jar:2")
	g, _ := coord.ParseGav("g:b:3")
	if c.Store().Len() != 3 || c.Store().Put(g, project("g:b:3", "")) != api.OK {
		t.Error("store")
	}
	dialog(t, c, "path compile", "g:b:jar:3", "root g:b:1", "ok", "report", "g:b:jar:1")
	var none *Console
	if none.Say("projects") != "" || none.Say("x") != "" || none.Store() != nil {
		t.Error("nil")
	}
}

// P20.5, P20.6: answers are the layers'; a line that only asks changes none.
func TestFollows(t *testing.T) {
	c := filled(t, sample.Broken())
	c.Say("root g:a:1")
	e := engine.New(c.Store(), api.Gav{Group: "g", Artifact: "a", Version: "1"}, 1000)
	if c.Say("report") != strings.Join(e.Report(), "\n") || c.Say("files test") != strings.Join(paths.Files(e.Path(api.ScopeTest)), "\n") {
		t.Error("layers")
	}
	for _, v := range []string{"1", "1.0", "2-rc", "x"} {
		r, _ := bounds.Parse("[1,2)")
		if (c.Say("in [1,2) "+v) == "yes") != bounds.Has(r, v) || (c.Say("compare 1 "+v) == "below") != (version.Compare("1", v) < 0) {
			t.Error(v)
		}
	}
	asks := []string{"problem", "path compile", "files test", "report", "breaches", "find", "why g:d:jar", "projects", "versions g:b", "text g:a:1", "compare 1 2", "in [1] 1", "model g:a:1", "x", "", "# x", "put", "root x"}
	was := map[string]string{}
	for _, line := range asks {
		was[line] = c.Say(line)
	}
	r := rand.New(rand.NewSource(39))
	for range 500 {
		line := asks[r.Intn(len(asks))]
		if got := c.Say(line); got != was[line] {
			t.Fatal(line, got)
		}
		var wild []byte
		for range r.Intn(20) {
			wild = append(wild, byte(r.Intn(256)))
		}
		c.Say("why " + string(wild))
		c.Say(string(wild))
	}
}
