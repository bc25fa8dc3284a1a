package infer

import (
	"slices"

	"damask/api"
	"damask/equate"
	"damask/leave"
	"damask/nodes"
	"damask/solve"
	"damask/types"
	"damask/unify"
)

// task is a problem that is to be solved: it has the types of what it is about as they are before, and finds those that they are when all is solved.
type task struct {
	problem  api.Problem
	types    []api.Type
	finished func(solved *api.Problem) []api.Type
}

// done solves the problem of a task.
func (p *program) done(t task) []api.Type {
	solved := leave.Must(solve.Solve(*p.env, t.problem))
	if len(solved.Wants) > 0 {
		leave.With(api.ErrType)
	}
	return t.finished(&solved)
}

// gather makes the task of a group.
func (p *program) gather(group []int) task {
	g := newGatherer(p.env, p.globals)
	if d := &p.decls[group[0]]; p.signed[d.Name] != nil {
		t := p.globals[d.Name]
		g.define(around{}, d, binders(p.signed[d.Name]), t)
		return settled(g, t)
	}
	in := around{}.inside()
	g.group(in, p.decls, group, nil)
	var l []api.Type
	for _, i := range group {
		t, _ := in.variable(p.decls[i].Name)
		l = append(l, t)
	}
	return p.unsettled(g, l...)
}

// expression makes the task of a single expression.
func (p *program) expression(e *api.Expr) task {
	g := newGatherer(p.env, p.globals)
	t := g.newMeta(star())
	g.check(around{}, e, t)
	return p.unsettled(g, t)
}

// settled is a task that finds no types: what is open in the end can be anything.
func settled(g *gatherer, l ...api.Type) task {
	return task{g.problem, l, func(solved *api.Problem) []api.Type {
		mustBeUnit(solved, leave.Must(solve.Open(*solved)))
		return l
	}}
}

// unsettled is a task that finds the types of a group, which are general in what is open in the end.
func (p *program) unsettled(g *gatherer, l ...api.Type) task {
	return task{g.problem, l, func(solved *api.Problem) []api.Type {
		open := leave.Must(solve.Open(*solved))
		var found []api.Type
		for _, t := range l {
			found = append(found, leave.Must(unify.Normal(*p.env, *solved, equate.Outside, t)))
		}
		for i, t := range found {
			found[i] = generalized(solved, open, t)
		}
		return found
	}}
}

func mustBeUnit(p *api.Problem, metas []int) {
	if _, e := solve.Unit(*p, metas); e != api.OK {
		leave.With(api.ErrType)
	}
}

// generalized binds the metavariables in a type. All others that are open are the type Unit then.
func generalized(p *api.Problem, open []int, t api.Type) api.Type {
	own := inOrder(t)
	mustBeUnit(p, slices.DeleteFunc(slices.Clone(open), func(n int) bool { return slices.Contains(own, n) }))
	t = leave.Must(types.Bind(t, api.YMeta, own))
	for _, n := range slices.Backward(own) {
		k, e := types.Resolve(p.Metas, p.Metas[n].Kind)
		if e != api.OK || len(inOrder(k)) > 0 {
			leave.With(api.ErrType)
		}
		t = api.Type{Op: api.YAll, Args: []api.Type{k, t}}
	}
	if types.Check(t) != api.OK {
		leave.With(api.ErrFull)
	}
	return t
}

// inOrder returns the metavariables in a type, in the order in which they stand there, each once.
func inOrder(t api.Type) []int {
	var l []int
	nodes.Visit(t, func(node api.Type, _ int) {
		if node.Op == api.YMeta && !slices.Contains(l, node.N) {
			l = append(l, node.N)
		}
	})
	return l
}
