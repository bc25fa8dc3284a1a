package unify

import (
	"slices"

	"damask/api"
	"damask/equate"
	"damask/nodes"
	"damask/types"
)

// isAsked reports whether a problem is formed, and what is asked of it is as its parts are.
func isAsked(p *api.Problem, imp int, l ...api.Type) bool {
	return isFormed(p) && isImp(p, imp) && areTypes(p, l)
}

func isFormed(p *api.Problem) bool {
	if len(p.Metas) > api.MaxMetas || len(p.Rigids) > api.MaxMetas || len(p.Imps) > api.MaxMetas || len(p.Wants) > api.MaxWants {
		return false
	}
	return !slices.ContainsFunc(p.Metas, func(m api.Meta) bool { return !isMeta(p, m) }) && !hasRing(p) &&
		!slices.ContainsFunc(p.Rigids, func(r api.Rigid) bool { return !isLevel(r.Level) || !isType(p, r.Kind) }) &&
		!hasWrongImp(p) &&
		!slices.ContainsFunc(p.Wants, func(w api.Want) bool { return !isImp(p, w.Imp) || !isType(p, w.Type) })
}

// isMeta looks at no value of an open metavariable, which can be anything.
func isMeta(p *api.Problem, m api.Meta) bool {
	return isLevel(m.Level) && isType(p, m.Kind) && (!m.Solved || isType(p, m.Value))
}

// hasRing finds out by resolving something, since values that are right each can only be wrong together by a ring.
func hasRing(p *api.Problem) bool {
	_, e := types.Resolve(p.Metas, api.Type{Op: api.YCon, S: "Type"})
	return e != api.OK
}

func hasWrongImp(p *api.Problem) bool {
	for i, imp := range p.Imps {
		if imp.Parent < equate.Outside || imp.Parent >= i || !areTypes(p, imp.Given) {
			return true
		}
	}
	return false
}

func isLevel(n int) bool { return n >= 0 && n <= api.MaxMetas }

func isImp(p *api.Problem, n int) bool { return n >= equate.Outside && n < len(p.Imps) }

func areTypes(p *api.Problem, l []api.Type) bool {
	return !slices.ContainsFunc(l, func(t api.Type) bool { return !isType(p, t) })
}

// isType reports whether a type is proper, and has only variables of a problem.
func isType(p *api.Problem, t api.Type) bool {
	if types.Check(t) != api.OK {
		return false
	}
	known := true
	nodes.Visit(t, func(node api.Type, around int) {
		switch node.Op {
		case api.YVar:
			known = known && node.N < around
		case api.YMeta:
			known = known && node.N < len(p.Metas)
		case api.YRigid:
			known = known && node.N < len(p.Rigids)
		}
	})
	return known
}
