// Package sample writes projects and fills stores in short, for the tests of the layers above the store.
package sample

import (
	"strings"

	"pomace/api"
	"pomace/coord"
	"pomace/store"
)

// Optional is what stands in a dependency that is optional.
const Optional = "<optional>true</optional>"

// unsaid stands for what a dependency doesn't say.
const unsaid = "-"

// Gav gives the project of a name.
func Gav(name string) api.Gav {
	g, _ := coord.ParseGav(name)
	return g
}

// Key gives the Key of group g, that artifact, and the type jar.
func Key(artifact string) api.Key {
	return api.Key{Group: "g", Artifact: artifact, Type: "jar"}
}

// element lays an element, if it has a text that is said.
func element(name, text string) string {
	if text == "" || text == unsaid {
		return ""
	}
	return "<" + name + ">" + text + "</" + name + ">"
}

// Dep lays a dependency: group:artifact, version and scope, and what more stands in it.
func Dep(words string, more ...string) string {
	w := append(strings.Fields(words), unsaid, unsaid)
	group, artifact, _ := strings.Cut(w[0], ":")
	return "<dependency>" + element("groupId", group) + element("artifactId", artifact) + element("version", w[1]) + element("scope", w[2]) + strings.Join(more, "") + "</dependency>"
}

// Deps lays dependencies.
func Deps(l ...string) string {
	return "<dependencies>" + strings.Join(l, "") + "</dependencies>"
}

// Managed lays managed dependencies.
func Managed(l ...string) string {
	return "<dependencyManagement>" + Deps(l...) + "</dependencyManagement>"
}

// Needs lays dependencies of group g, a semicolon between two: artifact, version and scope.
func Needs(words string) string {
	var l []string
	for _, need := range strings.Split(words, ";") {
		if need = strings.TrimSpace(need); need != "" {
			l = append(l, Dep("g:"+need))
		}
	}
	return Deps(l...)
}

// Without lays exclusions: group:artifact.
func Without(l ...string) string {
	s := ""
	for _, id := range l {
		group, artifact, _ := strings.Cut(id, ":")
		s += "<exclusion>" + element("groupId", group) + element("artifactId", artifact) + "</exclusion>"
	}
	return "<exclusions>" + s + "</exclusions>"
}

// Project lays a project of a name, and what more stands in it.
func Project(name string, more ...string) string {
	g := Gav(name)
	return "<project>" + element("groupId", g.Group) + element("artifactId", g.Artifact) + element("version", g.Version) + strings.Join(more, "") + "</project>"
}

// Store makes a store of names and, behind each, what more stands in its project.
func Store(l ...string) *store.Store {
	s := store.New()
	for i := 0; i+1 < len(l); i += 2 {
		if s.Put(Gav(l[i]), Project(l[i], l[i+1])) != api.OK {
			panic("no project: " + l[i])
		}
	}
	return s
}

// Broken makes a store in which a breaks a range that another choice wouldn't: a needs b and c; b 1 needs d 1, b 2 and c need d 2.
func Broken() *store.Store {
	return Store("g:a:1", Needs("b 1; c 1"), "g:b:1", Needs("d [1]"), "g:c:1", Needs("d [2]"), "g:b:2", Needs("d [2]"), "g:d:1", "", "g:d:2", "")
}

// Never makes a store in which each choice of a breaks a range: that of Broken without b 2.
func Never() *store.Store {
	return Store("g:a:1", Needs("b 1; c 1"), "g:b:1", Needs("d [1]"), "g:c:1", Needs("d [2]"), "g:d:1", "", "g:d:2", "")
}

// Tell tells items by their artifacts and versions.
func Tell(l []api.Item) string {
	var words []string
	for _, x := range l {
		word := x.Key.Artifact + x.Version
		if x.Key.Type != "jar" {
			word += x.Key.Type
		}
		words = append(words, word)
	}
	return strings.Join(words, " ")
}
