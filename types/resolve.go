package types

import (
	"slices"

	"damask/api"
	"damask/nodes"
	"damask/proper"
)

// resolvable reports whether all values are proper and without free variables, all metavariables are in the list, and none needs itself.
func resolvable(metas []api.Meta, t api.Type) bool {
	for _, m := range metas {
		if m.Solved && (!proper.Type(m.Value) || len(freeNumbers(m.Value)) > 0 || !within(metas, m.Value)) {
			return false
		}
	}
	return within(metas, t) && !inRing(metas)
}

func within(metas []api.Meta, t api.Type) bool {
	l, _ := Metas(t)
	return len(l) == 0 || slices.Max(l) < len(metas)
}

// inRing reports whether a metavariable needs itself, over any number of values.
func inRing(metas []api.Meta) bool {
	begun, done := map[int]bool{}, map[int]bool{}
	var returns func(n int) bool
	returns = func(n int) bool {
		if begun[n] || !metas[n].Solved {
			return begun[n] && !done[n]
		}
		begun[n] = true
		needed, _ := Metas(metas[n].Value)
		if slices.ContainsFunc(needed, returns) {
			return true
		}
		done[n] = true
		return false
	}
	for n := range metas {
		if returns(n) {
			return true
		}
	}
	return false
}

// resolved resolves each value once. One that is too large would be in the result as a whole, so that there is none.
func resolved(metas []api.Meta, t api.Type) (api.Type, api.Errno) {
	known := map[int]api.Type{}
	tooLarge := false
	var leaf func(t api.Type, around int) api.Type
	leaf = func(t api.Type, _ int) api.Type {
		if t.Op != api.YMeta || !metas[t.N].Solved || tooLarge {
			return t
		}
		value, found := known[t.N]
		if !found {
			value = nodes.Replace(metas[t.N].Value, leaf)
			known[t.N] = value
			tooLarge = tooLarge || !proper.Type(value)
		}
		return anew(value)
	}
	result := nodes.Replace(t, leaf)
	if tooLarge {
		return api.Type{}, api.ErrFull
	}
	return full(result)
}
