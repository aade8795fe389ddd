package graph

import (
	"slices"
)

// walker finds groups: of each node when it was met first, and the least such time of what it leads back to; the nodes that are in no group yet, and those that are being followed.
type walker struct {
	graph  [][]int
	time   int
	met    []int
	low    []int
	next   []int // of each node how many of those that it leads to were followed
	of     []int // of each node the number of its group
	open   []int
	way    []int
	groups [][]int
}

// Groups gives the nodes in groups of such as can be come to from one another.
func Groups(g [][]int) [][]int {
	if !May(g) {
		return nil
	}
	w := &walker{graph: g, met: make([]int, len(g)), low: make([]int, len(g)), next: make([]int, len(g)), of: slices.Repeat([]int{none}, len(g))}
	for v := range g {
		if w.met[v] == 0 {
			w.follow(v)
		}
	}
	return w.ordered()
}

// meet begins with a node.
func (w *walker) meet(v int) {
	w.time++
	w.met[v], w.low[v] = w.time, w.time
	w.open = append(w.open, v)
	w.way = append(w.way, v)
}

// follow goes through all that can be come to from a node and wasn't met yet.
func (w *walker) follow(from int) {
	w.meet(from)
nodes:
	for len(w.way) > 0 {
		last := len(w.way) - 1
		u := w.way[last]
		for w.next[u] < len(w.graph[u]) {
			v := w.graph[u][w.next[u]]
			w.next[u]++
			if w.met[v] == 0 {
				w.meet(v)
				continue nodes
			}
			if w.of[v] == none {
				w.low[u] = min(w.low[u], w.met[v])
			}
		}
		w.way = w.way[:last:last]
		if last > 0 {
			up := w.way[last-1]
			w.low[up] = min(w.low[up], w.low[u])
		}
		if w.low[u] == w.met[u] {
			w.close(u)
		}
	}
}

// close makes a group of the open nodes from u on.
func (w *walker) close(u int) {
	at := len(w.open) - 1
	for w.open[at] != u {
		at--
	}
	group := slices.Clone(w.open[at:])
	slices.Sort(group)
	for _, v := range group {
		w.of[v] = len(w.groups)
	}
	w.groups = append(w.groups, group)
	w.open = w.open[:at:at]
}

// ordered gives the groups, each ahead of those that can be come to from it, that with the least node first of several that could be next.
func (w *walker) ordered() [][]int {
	// A group is named by its least node, so that the order of nodes is that of groups.
	heads := make([][]int, len(w.graph))
	name := func(v int) int {
		return w.groups[w.of[v]][0]
	}
	for u, next := range w.graph {
		for _, v := range next {
			if name(u) != name(v) {
				heads[name(u)] = append(heads[name(u)], name(v))
			}
		}
	}
	var list [][]int
	for _, v := range sorted(heads) {
		if name(v) == v {
			list = append(list, w.groups[w.of[v]])
		}
	}
	return list
}
