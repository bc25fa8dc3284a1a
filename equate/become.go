package equate

import (
	"slices"

	"damask/api"
	"damask/kind"
	"damask/leave"
	"damask/nodes"
	"damask/types"
)

// chosen returns the metavariable among two types that is to become the other one. Of two of them it is one that is touchable wherever the other one is.
func (c *call) chosen(a, b api.Type) (int, api.Type) {
	if a.Op != api.YMeta || b.Op == api.YMeta && c.isBefore(a.N, b.N) {
		return b.N, a
	}
	return a.N, b
}

// isBefore compares metavariables by their levels and numbers.
func (w *Worker) isBefore(m, n int) bool {
	if w.Metas[m].Level != w.Metas[n].Level {
		return w.Metas[m].Level < w.Metas[n].Level
	}
	return m < n
}

// become gives a metavariable its value, if it can have it.
func (c *call) become(m int, t api.Type) bool {
	if !c.Touchable(c.imp, m) || t.Op == api.YAll || t.Op == api.YImp || occurs(api.Type{Op: api.YMeta, N: m}, t) {
		return false
	}
	level := c.Metas[m].Level
	needed, deepest := c.reach(t)
	if deepest > level || !types.Same(c.kind(t), c.Resolve(c.Metas[m].Kind)) {
		return false
	}
	c.Metas[m].Solved, c.Metas[m].Value = true, t
	c.Solved++
	for n := range needed {
		c.Metas[n].Level = min(c.Metas[n].Level, level)
	}
	return true
}

// reach returns the metavariables in a resolved type, in their Kinds, and so on, and the greatest level of the rigid variables there.
func (w *Worker) reach(t api.Type) (map[int]bool, int) {
	metas, deepest := map[int]bool{}, 0
	var look func(node api.Type, around int)
	look = func(node api.Type, _ int) {
		switch {
		case node.Op == api.YRigid:
			deepest = max(deepest, w.Rigids[node.N].Level)
		case node.Op == api.YMeta && !metas[node.N]:
			metas[node.N] = true
			nodes.Visit(w.Resolve(w.Metas[node.N].Kind), look)
		}
	}
	nodes.Visit(t, look)
	return metas, deepest
}

// kind returns the kind of a resolved type. Kinds are compared as they are, and so those of its variables must be resolved, too.
func (w *Worker) kind(t api.Type) api.Type {
	metas, rigids := slices.Clone(w.Metas), slices.Clone(w.Rigids)
	nodes.Visit(t, func(node api.Type, _ int) {
		switch node.Op {
		case api.YMeta:
			metas[node.N].Kind = w.Resolve(metas[node.N].Kind)
		case api.YRigid:
			rigids[node.N].Kind = w.Resolve(rigids[node.N].Kind)
		}
	})
	return leave.Must(kind.Kind(*w.env, metas, rigids, nil, t))
}
