package pom

import (
	"pomace/api"
	"pomace/coord"
)

// Write makes the tree that has just the fields of p.
func Write(p api.Pom) api.Node {
	var kids []api.Node
	if p.Parent != (api.Gav{}) {
		kids = append(kids, element("parent", words(
			"groupId", p.Parent.Group, "artifactId", p.Parent.Artifact, "version", p.Parent.Version)))
	}
	kids = append(kids, words("groupId", p.Group, "artifactId", p.Artifact, "version", p.Version, "packaging", p.Packaging)...)
	if len(p.Props) > 0 {
		kids = append(kids, writeProps(p.Props))
	}
	if len(p.Managed) > 0 {
		kids = append(kids, element("dependencyManagement", []api.Node{writeDeps(p.Managed)}))
	}
	if len(p.Deps) > 0 {
		kids = append(kids, writeDeps(p.Deps))
	}
	return element("project", kids)
}

// element makes an element.
func element(name string, kids []api.Node) api.Node {
	return api.Node{Name: name, Kids: kids}
}

// texts makes a text's place in an element: none, if it is empty.
func texts(text string) []api.Node {
	if text == "" {
		return nil
	}
	return []api.Node{{Text: text}}
}

// words makes elements of names and texts, in turn; an empty text has none.
func words(l ...string) []api.Node {
	var list []api.Node
	for i := 0; i+1 < len(l); i += 2 {
		if l[i+1] != "" {
			list = append(list, element(l[i], texts(l[i+1])))
		}
	}
	return list
}

// writeProps makes the element of properties.
func writeProps(l []api.Prop) api.Node {
	var kids []api.Node
	for _, p := range l {
		kids = append(kids, element(p.Name, texts(p.Value)))
	}
	return element("properties", kids)
}

// writeDeps makes the element of dependencies.
func writeDeps(l []api.Dep) api.Node {
	var kids []api.Node
	for _, d := range l {
		kids = append(kids, element("dependency", writeDep(d)))
	}
	return element("dependencies", kids)
}

// writeDep makes the fields of a dependency.
func writeDep(d api.Dep) []api.Node {
	kids := words(
		"groupId", d.Group, "artifactId", d.Artifact, "version", d.Version, "type", d.Type, "classifier", d.Classifier,
		"scope", coord.Word(d.Scope), "optional", optionalWord(d.Optional))
	if len(d.Excl) == 0 {
		return kids
	}
	var list []api.Node
	for _, x := range d.Excl {
		list = append(list, element("exclusion", words("groupId", x.Group, "artifactId", x.Artifact)))
	}
	return append(kids, element("exclusions", list))
}

// optionalWord gives the word of a dependency's Optional.
func optionalWord(n int) string {
	switch n {
	case isOptional:
		return "true"
	case isNeeded:
		return "false"
	}
	return ""
}
