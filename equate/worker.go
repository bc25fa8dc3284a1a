// Package equate makes the types of a problem equal under what is given, for the layers that unify types and solve constraints.
package equate

import (
	"slices"

	"damask/api"
	"damask/leave"
	"damask/rewrite"
	"damask/types"
	"damask/values"
)

// Outside is where a type is that is in no implication.
const Outside = -1

// most is how many equations may be taken out of queues, and how many pairs of types may be unified, in one call.
const most = api.MaxFuel / 20

// Worker solves metavariables of a problem that is formed, and adds rigid variables. Errors leave it.
type Worker struct {
	Metas  []api.Meta
	Rigids []api.Rigid
	Solved int // how many metavariables it has solved
	env    *api.Env
	known  rewrite.Families
	imps   []implication
	found  Memo[finding]
}

// implication is one whose equations are known.
type implication struct {
	parent, level int
	equations     []api.Eq
}

// New lets a worker begin with a problem, which stays as it is.
func New(env *api.Env, p *api.Problem) *Worker {
	w := &Worker{Metas: slices.Clone(p.Metas), Rigids: slices.Clone(p.Rigids), env: env, known: rewrite.Known(env)}
	for _, given := range p.Imps {
		made := implication{parent: given.Parent, level: w.Level(given.Parent) + 1}
		for _, c := range given.Given {
			if sides, ok := Sides(c); ok {
				made.equations = append(made.equations, sides)
			}
		}
		w.imps = append(w.imps, made)
	}
	return w
}

// Level returns the level of an implication.
func (w *Worker) Level(imp int) int {
	if imp == Outside {
		return 0
	}
	return w.imps[imp].level
}

// Chain returns the implications from the outermost one around an implication to itself.
func (w *Worker) Chain(imp int) []int {
	var l []int
	for ; imp != Outside; imp = w.imps[imp].parent {
		l = append(l, imp)
	}
	slices.Reverse(l)
	return l
}

// Equations returns those that are given in an implication, those of its chain first.
func (w *Worker) Equations(imp int) []api.Eq {
	var l []api.Eq
	for _, i := range w.Chain(imp) {
		l = append(l, w.imps[i].equations...)
	}
	return l
}

// Touchable reports whether a metavariable can be solved in an implication: equations that are given within its level could be what makes types the same there.
func (w *Worker) Touchable(imp, meta int) bool {
	if w.Metas[meta].Solved {
		return false
	}
	for ; w.Level(imp) > w.Metas[meta].Level; imp = w.imps[imp].parent {
		if len(w.imps[imp].equations) > 0 {
			return false
		}
	}
	return true
}

// Resolve puts the values of solved metavariables for them.
func (w *Worker) Resolve(t api.Type) api.Type { return leave.Must(values.Put(w.Metas, t)) }

// Normal returns the resolved, normal form of a type in an implication.
func (w *Worker) Normal(imp int, t api.Type) api.Type {
	r := w.begin(imp).reader()
	return r.normal(t)
}

// Holds reports whether two types have the same resolved, normal form in an implication.
func (w *Worker) Holds(imp int, a, b api.Type) bool {
	r := w.begin(imp).reader()
	walk := r.normal
	a, b = walk(a), walk(b)
	return types.Same(a, b)
}

// Rules returns the rules of an implication, and whether it is impossible.
func (w *Worker) Rules(imp int) ([]api.Eq, bool) {
	found := w.begin(imp).rules()
	return found.rules, found.impossible
}

// Unify makes two types equal in an implication, and returns what is left.
func (w *Worker) Unify(imp int, a, b api.Type) []api.Want {
	c := w.begin(imp)
	c.unify(a, b)
	return c.left
}

// Sides returns the sides of an equation, if a constraint is one.
func Sides(c api.Type) (api.Eq, bool) {
	if c.Op != api.YApp || c.Args[0].Op != api.YApp {
		return api.Eq{}, false
	}
	head := c.Args[0].Args[0]
	if head.Op != api.YCon || head.S != "~" {
		return api.Eq{}, false
	}
	return api.Eq{Left: c.Args[0].Args[1], Right: c.Args[1]}, true
}

func equation(a, b api.Type) api.Type {
	head := api.Type{Op: api.YApp, Args: []api.Type{{Op: api.YCon, S: "~"}, a}}
	return api.Type{Op: api.YApp, Args: []api.Type{head, b}}
}
