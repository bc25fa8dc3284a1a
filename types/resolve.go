package types

import (
	"slices"

	"damask/api"
	"damask/proper"
)

// resolvable reports whether all values are proper and without free variables, all metavariables are in the list, and none needs itself.
func resolvable(metas []api.Meta, t api.Type) bool {
	for _, m := range metas {
		if m.Solved && (!proper.Type(m.Value) || len(freeNumbers(m.Value)) > 0 || !within(metas, m.Value)) {
			return false
		}
	}
	return within(metas, t) && !inRing(metas)
}

func within(metas []api.Meta, t api.Type) bool {
	l, _ := Metas(t)
	return len(l) == 0 || slices.Max(l) < len(metas)
}

// inRing reports whether a metavariable needs itself, over any number of values.
func inRing(metas []api.Meta) bool {
	begun, done := map[int]bool{}, map[int]bool{}
	var returns func(n int) bool
	returns = func(n int) bool {
		if begun[n] || !metas[n].Solved {
			return begun[n] && !done[n]
		}
		begun[n] = true
		needed, _ := Metas(metas[n].Value)
		if slices.ContainsFunc(needed, returns) {
			return true
		}
		done[n] = true
		return false
	}
	for n := range metas {
		if returns(n) {
			return true
		}
	}
	return false
}
