package infer

import (
	"damask/api"
	"damask/equate"
	"damask/kind"
	"damask/leave"
	"damask/nodes"
	"damask/types"
)

// gatherer goes through expressions and gathers a problem: what must hold so that they have their types. Nothing is solved meanwhile, so that all types are resolved as they are. Errors leave it.
type gatherer struct {
	env     *api.Env
	globals map[string]api.Type
	problem api.Problem
	levels  []int // of the implications
	present int   // the implication that is gone through
}

func newGatherer(env *api.Env, globals map[string]api.Type) *gatherer {
	return &gatherer{env: env, globals: globals, present: equate.Outside}
}

// added adds something to a list of the problem, if it has room.
func added[T any](l []T, item T, most int) []T {
	if len(l) >= most {
		leave.With(api.ErrFull)
	}
	return append(l, item)
}

func (g *gatherer) level() int {
	if g.present == equate.Outside {
		return 0
	}
	return g.levels[g.present]
}

func (g *gatherer) newMeta(kind api.Type) api.Type {
	g.problem.Metas = added(g.problem.Metas, api.Meta{Kind: kind, Level: g.level()}, api.MaxMetas)
	return api.Type{Op: api.YMeta, N: len(g.problem.Metas) - 1}
}

// newMetas returns metavariables of kinds, each of which stands in the context of those before it.
func (g *gatherer) newMetas(kinds []api.Type) []api.Type {
	var l []api.Type
	for _, k := range kinds {
		l = append(l, g.newMeta(put(k, l...)))
	}
	return l
}

func (g *gatherer) newRigid(kind api.Type) api.Type {
	g.problem.Rigids = added(g.problem.Rigids, api.Rigid{Kind: kind, Level: g.level()}, api.MaxMetas)
	return api.Type{Op: api.YRigid, N: len(g.problem.Rigids) - 1}
}

func (g *gatherer) want(c api.Type) {
	g.problem.Wants = added(g.problem.Wants, api.Want{Imp: g.present, Type: c}, api.MaxWants)
}

// open begins a new implication, in which nothing is given so far.
func (g *gatherer) open() {
	level := g.level() + 1
	g.problem.Imps = added(g.problem.Imps, api.Imp{Parent: g.present}, api.MaxMetas)
	g.levels = append(g.levels, level)
	g.present = len(g.levels) - 1
}

// back leaves the implications that were begun since another one was present.
func (g *gatherer) back(imp int) { g.present = imp }

func (g *gatherer) give(c api.Type) {
	i := &g.problem.Imps[g.present]
	i.Given = append(i.Given, c)
}

// enter begins an implication for all foralls and constraints that a type begins with. It returns what is left, and the rigid variables.
func (g *gatherer) enter(t api.Type) (api.Type, []api.Type) {
	if !isOpened(t) {
		return t, nil
	}
	g.open()
	var rigids []api.Type
	for {
		switch t.Op {
		case api.YAll:
			r := g.newRigid(t.Args[0])
			rigids = append(rigids, r)
			t = put(t.Args[1], r)
		case api.YImp:
			g.give(t.Args[0])
			t = t.Args[1]
		default:
			return t, rigids
		}
	}
}

// instantiate puts metavariables for the foralls that a type begins with, and wants its constraints.
func (g *gatherer) instantiate(t api.Type) api.Type {
	for {
		switch t.Op {
		case api.YAll:
			t = put(t.Args[1], g.newMeta(t.Args[0]))
		case api.YImp:
			g.want(t.Args[0])
			t = t.Args[1]
		default:
			return t
		}
	}
}

// split returns the argument and the result of a function of a type.
func (g *gatherer) split(t api.Type) (api.Type, api.Type) {
	if l, ok := parts(t, "->", 2); ok {
		return l[0], l[1]
	}
	a := g.newMeta(star())
	b := g.newMeta(star())
	g.want(equation(t, function([]api.Type{a}, b)))
	return a, b
}

// annotation resolves a type that is written in an expression, and must have a kind.
func (g *gatherer) annotation(in around, written *api.Type, k api.Type) api.Type {
	t := nodes.Replace(*written, func(leaf api.Type, _ int) api.Type {
		switch leaf.Op {
		case api.YName:
			found, ok := in.typeVariable(leaf.S)
			if !ok {
				leave.With(api.ErrName)
			}
			return found
		case api.YMeta, api.YRigid: // of no problem that is known where it is written
			leave.With(api.ErrArg)
		}
		return leaf
	})
	if types.Check(t) != api.OK {
		leave.With(api.ErrFull)
	}
	if e := kind.Check(*g.env, g.problem.Metas, g.problem.Rigids, nil, t, k); e != api.OK {
		leave.With(e)
	}
	return t
}
