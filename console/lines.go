package console

import (
	"strconv"
	"strings"

	"pomace/api"
	"pomace/bounds"
	"pomace/chars"
	"pomace/coord"
	"pomace/engine"
	"pomace/model"
	"pomace/paths"
	"pomace/version"
)

// mostDigits is how many digits a number has at most.
const mostDigits = 6

// number reads a number.
func number(word string) (int, bool) {
	if word == "" || len(word) > mostDigits || word[0] == '0' && word != "0" {
		return 0, false
	}
	for i := range len(word) {
		if !chars.IsDigit(word[i]) {
			return 0, false
		}
	}
	n, e := strconv.Atoi(word)
	return n, e == nil
}

// printItem lays an item as a word.
func printItem(x api.Item) string {
	return coord.PrintKey(x.Key) + ":" + x.Version
}

// printItems lays a line for each item.
func printItems(l []api.Item) []string {
	var lines []string
	for _, x := range l {
		lines = append(lines, printItem(x))
	}
	return lines
}

// put takes a project into the store.
func (c *Console) put(name, text string) string {
	g, e := coord.ParseGav(name)
	if e != api.OK {
		return saidWhat
	}
	if e := c.store.Put(g, text); e != api.OK {
		return tellError(e)
	}
	return saidOk
}

// setRoot says of which project is asked from now on.
func (c *Console) setRoot(name string) string {
	g, e := coord.ParseGav(name)
	if e != api.OK {
		return saidWhat
	}
	c.root, c.hasRoot, c.engine = g, true, nil
	return saidOk
}

// setMost says with how many conflicts a search goes on.
func (c *Console) setMost(word string) string {
	n, ok := number(word)
	if !ok {
		return saidWhat
	}
	c.most, c.engine = n, nil
	return saidOk
}

// projects gives a line for each project.
func (c *Console) projects() string {
	var lines []string
	for _, g := range c.store.All() {
		lines = append(lines, coord.PrintGav(g))
	}
	return lined(lines...)
}

// versions gives a line for each version of an id.
func (c *Console) versions(name string) string {
	group, artifact, ok := strings.Cut(name, ":")
	if !ok || !coord.IsId(group) || !coord.IsId(artifact) {
		return saidWhat
	}
	return lined(c.store.Versions(api.Id{Group: group, Artifact: artifact})...)
}

// text gives a project's text.
func (c *Console) text(name string) string {
	g, e := coord.ParseGav(name)
	if e != api.OK {
		return saidWhat
	}
	if text, ok := c.store.Text(g); ok {
		return text
	}
	return saidNone
}

// compare tells which of two versions is lower.
func compare(a, b string) string {
	switch version.Compare(a, b) {
	case -1:
		return "below"
	case 1:
		return "above"
	}
	return "same"
}

// in tells whether a range has a version.
func in(text, v string) string {
	r, e := bounds.Parse(text)
	switch {
	case e != api.OK:
		return tellError(e)
	case bounds.Has(r, v):
		return "yes"
	}
	return "no"
}

// model tells a project's model.
func (c *Console) model(name string) string {
	g, e := coord.ParseGav(name)
	if e != api.OK {
		return saidWhat
	}
	m, problem := model.New(c.store).Build(g)
	if problem != (api.Problem{}) {
		return Tell(problem)
	}
	lines := []string{m.Packaging}
	for _, need := range m.Needs {
		lines = append(lines, printNeed(need))
	}
	return lined(lines...)
}

// printNeed lays a need as a line.
func printNeed(need api.Need) string {
	words := []string{coord.PrintKey(need.Key), bounds.Print(need.Range), coord.Word(need.Scope)}
	if need.Optional {
		words = append(words, "optional")
	}
	for _, x := range need.Excl {
		words = append(words, "without", x.Group+":"+x.Artifact)
	}
	return spaced(words...)
}

// ask asks the root's engine; a problem is told instead.
func (c *Console) ask(tell func(e *engine.Engine) string) string {
	if !c.hasRoot {
		return saidNoRoot
	}
	if c.engine == nil || c.known != c.store.Len() {
		c.engine, c.known = engine.New(c.store, c.root, c.most), c.store.Len()
	}
	if p := c.engine.Problem(); p != (api.Problem{}) {
		return Tell(p)
	}
	return tell(c.engine)
}

// path gives a line for each item of a classpath, or for its file.
func (c *Console) path(word, name string) string {
	scope, ok := coord.Scope(name)
	if !ok || scope == api.ScopeImport {
		return saidWhat
	}
	return c.ask(func(e *engine.Engine) string {
		if word == "files" {
			return lined(paths.Files(e.Path(scope))...)
		}
		return lined(printItems(e.Path(scope))...)
	})
}

// breaches gives a line for each breach.
func breaches(e *engine.Engine) string {
	var lines []string
	for _, b := range e.Breaches() {
		var path []string
		for _, n := range b.Path {
			path = append(path, strconv.Itoa(n))
		}
		lines = append(lines, spaced(coord.PrintKey(b.Key), b.Version, strings.Join(path, "."), bounds.Print(b.Range)))
	}
	return lined(lines...)
}

// find tells what an audit finds.
func find(e *engine.Engine) string {
	f, problem := e.Find()
	if problem != (api.Problem{}) {
		return Tell(problem)
	}
	switch f.End {
	case api.Sat:
		return lined(append([]string{"found"}, printItems(f.Items)...)...)
	case api.Unsat:
		return spaced("never", strconv.Itoa(len(f.Proof)))
	}
	return "open"
}

// why gives a line for each node on the way to what is chosen of a key.
func (c *Console) why(name string) string {
	k, e := coord.ParseKey(name)
	if e != api.OK {
		return saidWhat
	}
	return c.ask(func(e *engine.Engine) string {
		var lines []string
		for _, b := range engine.Why(e, k) {
			lines = append(lines, spaced(printItem(api.Item{Key: b.Key, Version: b.Version}), bounds.Print(b.Range)))
		}
		return lined(lines...)
	})
}
