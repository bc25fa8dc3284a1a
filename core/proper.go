package core

import (
	"slices"

	"damask/api"
	"damask/types"
)

const (
	maxNodes   = 20 * api.MaxNodes
	maxDepth   = 10 * api.MaxDepth
	maxList    = api.MaxMetas
	maxGlobals = 10 * api.MaxMetas
)

func isProperType(t api.Type) bool { return types.Check(t) == api.OK }

func areTypes(l []api.Type) bool {
	return len(l) <= maxList && !slices.ContainsFunc(l, func(t api.Type) bool { return !isProperType(t) })
}

func arePairs(l []api.Eq) bool {
	return len(l) <= maxList && !slices.ContainsFunc(l, func(e api.Eq) bool { return !isProperType(e.Left) || !isProperType(e.Right) })
}

func areSigs(l []api.Sig) bool {
	return len(l) <= maxGlobals && !slices.ContainsFunc(l, func(s api.Sig) bool { return !isProperType(s.Type) })
}

// properness counts the nodes of a term, and stops at the first one that is too many or too deep.
type properness struct{ nodes int }

func isProper(c *api.Core) bool { return (&properness{}).term(c, 1) }

func isProperCo(o *api.Co) bool { return (&properness{}).co(o, 1) }

func (p *properness) node(depth int) bool {
	p.nodes++
	return p.nodes <= maxNodes && depth <= maxDepth
}

// all points at the items of a list, since copies of them would fill the stack where they are nested deeply.
func all[T any](l []T, holds func(*T) bool) bool {
	if len(l) > maxList {
		return false
	}
	for i := range l {
		if !holds(&l[i]) {
			return false
		}
	}
	return true
}

func (p *properness) typ(t *api.Type) bool { return p.node(0) && isProperType(*t) }

func (p *properness) term(c *api.Core, depth int) bool {
	term := func(c *api.Core) bool { return p.term(c, depth+1) }
	co := func(o *api.Co) bool { return p.co(o, depth+1) }
	alt := func(a *api.CoreAlt) bool { return isAlt(a) && p.term(&a.Body, depth+1) }
	return p.node(depth) && isTerm(c) && all(c.Types, p.typ) && all(c.Args, term) && all(c.Alts, alt) && all(c.Co, co)
}

func (p *properness) co(o *api.Co, depth int) bool {
	in := func(o *api.Co) bool { return p.co(o, depth+1) }
	return p.node(depth) && isCo(o) && all(o.Types, p.typ) && all(o.Args, in)
}

// parts says what something has beside its Op: of a list how many items it has, or any.
type parts struct {
	numbered, signed, named bool // N, also a negative one, and S
	types, args, alts, cos  int
}

// anyNumber is the length of a list that can have any.
const anyNumber = -1

// isTerm looks at a term without the terms, types and coercions in it.
func isTerm(c *api.Core) bool {
	var p parts
	switch c.Op {
	case api.CVar:
		p = parts{numbered: true}
	case api.CGlob, api.CCon:
		p = parts{named: true}
	case api.CInt:
		p = parts{signed: true}
	case api.CLam, api.CTLam, api.CTApp:
		p = parts{types: 1, args: 1}
	case api.CApp:
		p = parts{args: 2}
	case api.CQLam:
		p = parts{types: 2, args: 1}
	case api.CQApp, api.CCast:
		p = parts{args: 1, cos: 1}
	case api.CLet:
		p = parts{types: anyNumber, args: len(c.Types) + 1}
	case api.CCase:
		p = parts{types: 1, args: 1, alts: anyNumber}
	case api.CNew, api.COld:
		p = parts{named: true, types: anyNumber, args: 1}
	default:
		return false
	}
	return p.fit(c.N, c.S) && isLength(len(c.Types), p.types) && isLength(len(c.Args), p.args) && isLength(len(c.Alts), p.alts) && isLength(len(c.Co), p.cos)
}

// isCo looks at a coercion without the types and coercions in it.
func isCo(o *api.Co) bool {
	var p parts
	switch o.Op {
	case api.ORefl:
		p = parts{types: 1}
	case api.OSym, api.OLeft, api.ORight:
		p = parts{args: 1}
	case api.OTrans, api.OApp, api.OImp:
		p = parts{args: 2}
	case api.OAll:
		p = parts{types: 1, args: 1}
	case api.OVar:
		p = parts{numbered: true}
	case api.OAxiom:
		p = parts{numbered: true, named: true, types: anyNumber}
	case api.OFam:
		p = parts{named: true, args: anyNumber}
	default:
		return false
	}
	return p.fit(o.N, o.S) && isLength(len(o.Types), p.types) && isLength(len(o.Args), p.args)
}

func isAlt(a *api.CoreAlt) bool {
	var p parts
	switch a.Op {
	case api.AAny:
	case api.ACon:
		p = parts{named: true}
	case api.AInt:
		p = parts{signed: true}
	default:
		return false
	}
	return p.fit(a.N, a.S)
}

// fit reports whether a number and a name are as they must be.
func (p *parts) fit(n int, s string) bool {
	return (n == 0 || p.signed || p.numbered && n > 0) && (s != "") == p.named
}

func isLength(n, wanted int) bool { return wanted == anyNumber || n == wanted }
