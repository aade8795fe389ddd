package audit

import (
	"iter"
	"slices"

	"pomace/api"
	"pomace/bounds"
	"pomace/chain"
	"pomace/coord"
	"pomace/model"
	"pomace/store"
)

// rootType is the type of what is asked for.
const rootType = "jar"

// dealer makes a deal: by the root's model, what that manages and what its needs exclude. It knows of each item its number, of each id the number of its list of versions.
type dealer struct {
	store    *store.Store
	root     api.Gav
	managed  map[api.Key]api.Dep
	excl     []api.Id
	number   map[api.Item]int
	listed   map[api.Id]int
	versions [][]string
	deal     api.Deal
}

// newDealer makes a dealer that has the root alone.
func newDealer(s *store.Store, root api.Gav, m api.Model) *dealer {
	d := &dealer{store: s, root: root, managed: make(map[api.Key]api.Dep), number: make(map[api.Item]int), listed: make(map[api.Id]int)}
	for _, x := range slices.Backward(m.Managed) {
		d.managed[chain.Key(x)] = x
	}
	for _, need := range m.Needs {
		d.excl = append(d.excl, need.Excl...)
	}
	d.add(api.Item{Key: api.Key{Group: root.Group, Artifact: root.Artifact, Type: rootType}, Version: root.Version})
	return d
}

// add gives the number of an item, which is put behind all, if it isn't there yet; false, if there are too many.
func (d *dealer) add(x api.Item) (int, bool) {
	if n, ok := d.number[x]; ok {
		return n, true
	}
	n := len(d.deal.Items)
	if n >= api.MaxVars {
		return 0, false
	}
	d.number[x] = n
	d.deal.Items = append(d.deal.Items, x)
	return n, true
}

// want says what the item number i wants; false, if there are too many items then.
func (d *dealer) want(i int, b *model.Builder) bool {
	x := d.deal.Items[i]
	g := api.Gav{Group: x.Key.Group, Artifact: x.Key.Artifact, Version: x.Version}
	m, problem := b.Build(g)
	if problem != (api.Problem{}) {
		// A want of nothing can't be met: such an item is never taken.
		d.deal.Wants = append(d.deal.Wants, [][]int{{}})
		return true
	}
	var wants [][]int
	for need := range d.followed(m) {
		want := []int{}
		for _, v := range d.candidates(need) {
			n, ok := d.add(api.Item{Key: need.Key, Version: v})
			if !ok {
				return false
			}
			want = append(want, n)
		}
		wants = append(wants, want)
	}
	d.deal.Wants = append(d.deal.Wants, wants)
	return true
}

// followed goes through the needs of a project that are followed, each with the range that it has here.
func (d *dealer) followed(m api.Model) iter.Seq[api.Need] {
	return func(yield func(api.Need) bool) {
		for _, need := range m.Needs {
			if m.Gav != d.root {
				x := d.managed[need.Key]
				if !d.isFollowed(need, x.Scope) {
					continue
				}
				if x.Version != "" {
					need.Range, _ = bounds.Parse(x.Version)
				}
			}
			if !yield(need) {
				return
			}
		}
	}
}

// isFollowed tells whether a need of another project than the root is followed, where the root manages that scope of it, if any.
func (d *dealer) isFollowed(need api.Need, managed int) bool {
	scope := need.Scope
	if managed != api.NoScope {
		scope = managed
	}
	if need.Optional || scope != api.ScopeCompile && scope != api.ScopeRuntime {
		return false
	}
	id := api.Id{Group: need.Key.Group, Artifact: need.Key.Artifact}
	return !slices.ContainsFunc(d.excl, func(p api.Id) bool { return coord.Matches(p, id) })
}

// candidates gives the versions that meet a need.
func (d *dealer) candidates(need api.Need) []string {
	id := api.Id{Group: need.Key.Group, Artifact: need.Key.Artifact}
	i, ok := d.listed[id]
	if !ok {
		i = len(d.versions)
		d.listed[id] = i
		d.versions = append(d.versions, d.store.Versions(id))
	}
	return bounds.Among(need.Range, d.versions[i])
}
