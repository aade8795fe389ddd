package model

import (
	"slices"
	"strconv"

	"pomace/api"
	"pomace/bounds"
	"pomace/chain"
	"pomace/coord"
	"pomace/prop"
)

// defaultType is the type of what says none, and its packaging.
const defaultType = "jar"

// bomType is the type of what may be imported.
const bomType = "pom"

// steps makes one model, step by step: from what was declared, with the table of its properties. The way ends with the project itself.
type steps struct {
	*prop.Table
	builder  *Builder
	way      []api.Gav
	declared api.Pom
	model    api.Model
}

// bom is a project whose managed dependencies are imported, and where that is said.
type bom struct {
	gav   api.Gav
	where string
}

// table makes the table of a project's properties, its own names among them.
func table(p api.Pom) *prop.Table {
	more := []api.Prop{
		{Name: "project.groupId", Value: p.Group},
		{Name: "project.artifactId", Value: p.Artifact},
		{Name: "project.version", Value: p.Version},
	}
	if p.HasParent {
		more = append(more,
			api.Prop{Name: "project.parent.groupId", Value: p.Parent.Group},
			api.Prop{Name: "project.parent.artifactId", Value: p.Parent.Artifact},
			api.Prop{Name: "project.parent.version", Value: p.Parent.Version})
	}
	return prop.New(prop.Over(p.Props, more))
}

// fail ends the building with a problem of the project.
func (s *steps) fail(e api.Errno, where string) {
	panic(api.Problem{Err: e, Gav: s.model.Gav, Where: where})
}

// expanded gives a text with its properties put in.
func (s *steps) expanded(text, where string) string {
	out, e, _ := s.Expand(text)
	if e != api.OK {
		s.fail(e, where)
	}
	return out
}

// names looks at the project's own names, and takes its packaging.
func (s *steps) names() {
	g := s.model.Gav
	s.name(s.declared.Group, "project/groupId", g.Group)
	s.name(s.declared.Artifact, "project/artifactId", g.Artifact)
	s.name(s.declared.Version, "project/version", g.Version)
	const where = "project/packaging"
	s.model.Packaging = s.expanded(s.declared.Packaging, where)
	if s.model.Packaging == "" {
		s.model.Packaging = defaultType
	}
	if !coord.IsId(s.model.Packaging) {
		s.fail(api.ErrField, where)
	}
}

// name looks at a name of the project, which must be what it is asked for by.
func (s *steps) name(text, where, must string) {
	if s.expanded(text, where) != must {
		s.fail(api.ErrField, where)
	}
}

// props takes all properties.
func (s *steps) props() {
	list, e, _ := s.All()
	if e != api.OK {
		s.fail(e, "project/properties")
	}
	s.model.Props = list
}

// numbered gives where number k, from 0 on, of a list is.
func numbered(list string, k int) string {
	return list + "[" + strconv.Itoa(k+1) + "]"
}

// managed takes what is managed, and behind it what is imported.
func (s *steps) managed() {
	there := make(map[api.Key]struct{})
	add := func(d api.Dep) {
		k := chain.Key(d)
		if _, ok := there[k]; !ok {
			there[k] = struct{}{}
			s.model.Managed = append(s.model.Managed, d)
		}
	}
	var boms []bom
	for k, d := range s.declared.Managed {
		where := numbered("managed", k)
		d = s.right(d, where)
		if d.Scope == api.ScopeImport {
			boms = append(boms, bom{s.imported(d, where), where})
		} else {
			add(d)
		}
	}
	for _, x := range boms {
		for _, d := range s.follow(x).Managed {
			add(d)
		}
	}
	if len(s.model.Managed) > api.MaxList {
		s.fail(api.ErrBig, "managed")
	}
}

// imported gives the project that d imports.
func (s *steps) imported(d api.Dep, where string) api.Gav {
	r, e := bounds.Parse(d.Version)
	if d.Type != bomType || d.Classifier != "" || e != api.OK || r.Hard {
		s.fail(api.ErrField, where+"/scope")
	}
	return api.Gav{Group: d.Group, Artifact: d.Artifact, Version: r.Version}
}

// follow gives the model of a project that is imported.
func (s *steps) follow(x bom) api.Model {
	if slices.Contains(s.way, x.gav) {
		s.fail(api.ErrBom, x.where)
	}
	if len(s.way) >= api.MaxChain {
		s.fail(api.ErrBig, x.where)
	}
	return s.builder.build(x.gav, s.way)
}

// needs takes what the project needs.
func (s *steps) needs() {
	there := make(map[api.Key]struct{})
	for k, d := range s.declared.Deps {
		where := numbered("dependency", k)
		need := s.need(Manage(s.right(d, where), s.model.Managed), where)
		if _, ok := there[need.Key]; !ok {
			there[need.Key] = struct{}{}
			s.model.Needs = append(s.model.Needs, need)
		}
	}
}

// need makes a need of a dependency that was managed.
func (s *steps) need(d api.Dep, where string) api.Need {
	where += "/version"
	if d.Version == "" {
		s.fail(api.ErrFree, where)
	}
	r, e := bounds.Parse(d.Version)
	if e != api.OK {
		s.fail(e, where)
	}
	if d.Scope == api.NoScope {
		d.Scope = api.ScopeCompile
	}
	return api.Need{Key: chain.Key(d), Range: r, Scope: d.Scope, Optional: d.Optional == optional, Excl: d.Excl}
}

// right gives a dependency put right: its texts expanded, and such as they may be.
func (s *steps) right(d api.Dep, where string) api.Dep {
	if d.Type == "" {
		d.Type = defaultType
	}
	d.Group = s.id(d.Group, where+"/groupId")
	d.Artifact = s.id(d.Artifact, where+"/artifactId")
	d.Version = s.version(d.Version, where+"/version")
	d.Type = s.id(d.Type, where+"/type")
	if d.Classifier != "" {
		d.Classifier = s.classifier(d.Classifier, where+"/classifier")
	}
	return d
}

// id gives a text expanded, which must be an id.
func (s *steps) id(text, where string) string {
	text = s.expanded(text, where)
	if !coord.IsId(text) {
		s.fail(api.ErrField, where)
	}
	return text
}

// classifier gives a text expanded, which must be an id, or empty.
func (s *steps) classifier(text, where string) string {
	text = s.expanded(text, where)
	if text != "" && !coord.IsId(text) {
		s.fail(api.ErrField, where)
	}
	return text
}

// version gives a text expanded, which must be a range, or empty.
func (s *steps) version(text, where string) string {
	text = s.expanded(text, where)
	if text == "" {
		return text
	}
	if _, e := bounds.Parse(text); e != api.OK {
		s.fail(e, where)
	}
	return text
}
