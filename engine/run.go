package engine

import (
	"slices"

	"pomace/api"
	"pomace/audit"
	"pomace/store"
)

// Run tells all of a project in a store.
func Run(s *store.Store, root api.Gav, most int) api.Result {
	e := New(s, root, most)
	r := api.Result{Problem: e.Problem()}
	if r.Problem != (api.Problem{}) {
		r.Audit = r.Problem
		return r
	}
	path := e.Path
	for i := range r.Paths {
		r.Paths[i] = path(api.ScopeCompile + i)
	}
	r.Report = e.Report()
	r.Breaches = e.Breaches()
	r.Finding, r.Audit = e.Find()
	return r
}

// Same tells whether all the fields of a and b are the same.
func Same(a, b api.Result) bool {
	for i := range a.Paths {
		if !slices.Equal(a.Paths[i], b.Paths[i]) {
			return false
		}
	}
	return a.Problem == b.Problem && slices.Equal(a.Report, b.Report) && slices.EqualFunc(a.Breaches, b.Breaches, audit.SameBreach) &&
		a.Audit == b.Audit && sameFinding(a.Finding, b.Finding)
}

// sameFinding tells whether all the fields of a and b are the same.
func sameFinding(a, b api.Finding) bool {
	return a.End == b.End && slices.Equal(a.Items, b.Items) && a.Question.Vars == b.Question.Vars &&
		sameClauses(a.Question.Clauses, b.Question.Clauses) && sameClauses(a.Proof, b.Proof)
}

// sameClauses tells whether a and b are the same clauses.
func sameClauses(a, b [][]int) bool {
	return slices.EqualFunc(a, b, slices.Equal[[]int])
}
