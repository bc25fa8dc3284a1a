// Package values puts the values of solved metavariables for them, for the layers that know that there are all metavariables, and no rings.
package values

import (
	"damask/anew"
	"damask/api"
	"damask/nodes"
	"damask/proper"
)

// Put puts the values of solved metavariables for them, also in the values. Each value is made once: one that is too large would be in the result as a whole, so that there is none.
func Put(metas []api.Meta, t api.Type) (api.Type, api.Errno) {
	known := map[int]api.Type{}
	tooLarge := false
	var leaf func(t api.Type, around int) api.Type
	leaf = func(t api.Type, _ int) api.Type {
		if t.Op != api.YMeta || !metas[t.N].Solved || tooLarge {
			return t
		}
		value, found := known[t.N]
		if !found {
			value = nodes.Replace(metas[t.N].Value, leaf)
			known[t.N] = value
			tooLarge = tooLarge || !proper.Type(value)
		}
		return anew.Type(&value)
	}
	result := nodes.Replace(t, leaf)
	if tooLarge || !proper.Type(result) {
		return api.Type{}, api.ErrFull
	}
	return result, api.OK
}
