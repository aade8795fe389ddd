package pom

import (
	"strconv"

	"pomace/api"
	"pomace/coord"
	"pomace/tree"
	"pomace/version"
)

// fault is what is wrong, and where.
type fault struct {
	err   api.Errno
	where string
}

// place tells where an element is; it is worked out only where something is wrong.
type place func() string

// spot is an element, and where it is.
type spot struct {
	node api.Node
	at   place
}

// Read reads a project from a tree.
func Read(n api.Node) (p api.Pom, e api.Errno, where string) {
	defer func() {
		if wrong := recover(); wrong != nil {
			f := caught(wrong)
			p, e, where = api.Pom{}, f.err, f.where
		}
	}()
	root := spot{n, func() string { return n.Name }}
	if n.Name != "project" {
		root.fail(api.ErrField)
	}
	return root.project(), api.OK, ""
}

// caught gives the fault that a panic was.
func caught(wrong any) fault {
	f, ok := wrong.(fault)
	if !ok {
		panic(wrong)
	}
	return f
}

// fail ends the reading with an error at the spot.
func (s spot) fail(e api.Errno) {
	panic(fault{e, s.at()})
}

// under gives the place of the element of that name below the spot, that is number k of so many.
func (s spot) under(name string, k, of int) place {
	return func() string {
		where := s.at() + "/" + name
		if of > 1 {
			where += "[" + strconv.Itoa(k) + "]"
		}
		return where
	}
}

// each gives the elements of that name below the spot; with an empty name all.
func (s spot) each(name string) []spot {
	kids := tree.Kids(s.node, name)
	of := make(map[string]int)
	for _, kid := range kids {
		of[kid.Name]++
	}
	k := make(map[string]int)
	var list []spot
	for _, kid := range kids {
		k[kid.Name]++
		list = append(list, spot{kid, s.under(kid.Name, k[kid.Name], of[kid.Name])})
	}
	return list
}

// few is each, of which there may be no more than a list has.
func (s spot) few(name string) []spot {
	list := s.each(name)
	if len(list) > api.MaxList {
		s.fail(api.ErrBig)
	}
	return list
}

// field gives the field of that name, if it is there; else the spot where it would be.
func (s spot) field(name string) (spot, bool) {
	list := s.each(name)
	switch len(list) {
	case 0:
		return spot{at: s.under(name, 1, 1)}, false
	case 1:
		return list[0], true
	}
	list[1].fail(api.ErrField)
	return spot{}, false
}

// words gives the spot's text, of at least so many bytes.
func (s spot) words(least int) string {
	text := tree.Text(s.node)
	if len(tree.Kids(s.node, "")) > 0 || len(text) < least || len(text) > mostBytes {
		s.fail(api.ErrField)
	}
	return text
}

// text gives the text of the field of that name, if it is there.
func (s spot) text(name string) string {
	if f, ok := s.field(name); ok {
		return f.words(1)
	}
	return ""
}

// must gives the text of the field of that name, which must be there and be such as may says.
func (s spot) must(name string, may func(string) bool) string {
	f, ok := s.field(name)
	if !ok {
		f.fail(api.ErrField)
	}
	text := f.words(1)
	if !may(text) {
		f.fail(api.ErrField)
	}
	return text
}

// anything is for texts that may be whatever they are.
func anything(string) bool {
	return true
}

// project reads the whole.
func (s spot) project() api.Pom {
	var p api.Pom
	if up, ok := s.field("parent"); ok {
		p.HasParent = true
		p.Parent.Group = up.must("groupId", coord.IsId)
		p.Parent.Artifact = up.must("artifactId", coord.IsId)
		p.Parent.Version = up.must("version", version.May)
	}
	p.Group = s.text("groupId")
	p.Artifact = s.must("artifactId", anything)
	p.Version = s.text("version")
	p.Packaging = s.text("packaging")
	if f, ok := s.field("properties"); ok {
		p.Props = f.props()
	}
	if f, ok := s.field("dependencyManagement"); ok {
		p.Managed = f.deps(true)
	}
	p.Deps = s.deps(false)
	return p
}

// props reads properties.
func (s spot) props() []api.Prop {
	var list []api.Prop
	seen := make(map[string]struct{})
	for _, x := range s.few("") {
		name := x.node.Name
		if _, twice := seen[name]; twice {
			x.fail(api.ErrField)
		}
		seen[name] = struct{}{}
		list = append(list, api.Prop{Name: name, Value: x.words(0)})
	}
	return list
}

// deps reads the dependencies below the spot, or the managed ones.
func (s spot) deps(managed bool) []api.Dep {
	var list []api.Dep
	if f, ok := s.field("dependencies"); ok {
		for _, x := range f.few("dependency") {
			list = append(list, x.dep(managed))
		}
	}
	return list
}

// dep reads a dependency, or a managed one.
func (s spot) dep(managed bool) api.Dep {
	d := api.Dep{
		Group:      s.text("groupId"),
		Artifact:   s.must("artifactId", anything),
		Version:    s.text("version"),
		Type:       s.text("type"),
		Classifier: s.text("classifier"),
	}
	if f, ok := s.field("scope"); ok {
		d.Scope = f.scope(managed)
	}
	if f, ok := s.field("optional"); ok {
		d.Optional = f.optional()
	}
	if f, ok := s.field("exclusions"); ok {
		d.Excl = f.excl()
	}
	return d
}

// scope reads a scope's word.
func (s spot) scope(managed bool) int {
	scope, ok := coord.Scope(s.words(1))
	if !ok || scope == api.ScopeImport && !managed {
		s.fail(api.ErrField)
	}
	return scope
}

// optional reads whether a dependency is optional.
func (s spot) optional() int {
	switch s.words(1) {
	case "true":
		return isOptional
	case "false":
		return isNeeded
	}
	s.fail(api.ErrField)
	return 0
}

// excl reads exclusions.
func (s spot) excl() []api.Id {
	may := func(part string) bool {
		return coord.MayPattern(api.Id{Group: part, Artifact: part})
	}
	var list []api.Id
	for _, x := range s.few("exclusion") {
		list = append(list, api.Id{Group: x.must("groupId", may), Artifact: x.must("artifactId", may)})
	}
	return list
}
