package solve

import (
	"slices"

	"damask/api"
	"damask/equate"
	"damask/leave"
	"damask/nodes"
	"damask/rewrite"
	"damask/types"
)

// solver goes through wants.
type solver struct {
	*equate.Worker
	env     *api.Env
	imps    []api.Imp
	known   rewrite.Families
	classes map[string]*api.Class
	looked  int // how many wants it has looked at
	waiting equate.Memo[bool]
	givens  equate.Memo[[]api.Type]
}

func newSolver(env *api.Env, p *api.Problem) *solver {
	s := &solver{Worker: equate.New(env, p), env: env, imps: p.Imps, known: rewrite.Known(env), classes: map[string]*api.Class{}}
	for i := range slices.Backward(env.Classes) {
		s.classes[env.Classes[i].Name] = &env.Classes[i]
	}
	return s
}

// round returns the list of what the items of a list become, each in its place.
func round[T any](l []T, become func(item T) []T) []T {
	var made []T
	for _, item := range l {
		made = append(made, become(item)...)
		if len(made) > api.MaxWants {
			leave.With(api.ErrFull)
		}
	}
	return made
}

// rounds goes through wants until that changes nothing.
func (s *solver) rounds(wants []api.Want) []api.Want {
	for {
		solved := s.Solved
		next := round(wants, s.become)
		if s.Solved == solved && s.areSame(wants, next) {
			return next
		}
		wants = next
	}
}

func (s *solver) areSame(before, after []api.Want) bool {
	return slices.EqualFunc(before, after, func(a, b api.Want) bool {
		return types.Same(s.Resolve(a.Type), s.Resolve(b.Type)) && a.Imp == b.Imp
	})
}

// look counts the wants, so that there is an end.
func (s *solver) look() {
	if s.looked++; s.looked > api.MaxFuel {
		leave.With(api.ErrFuel)
	}
}

// become returns what is wanted instead of a want. What it is, is seen as it stands, not resolved.
func (s *solver) become(w api.Want) []api.Want {
	s.look()
	e, isEquation := equate.Sides(w.Type)
	switch {
	case s.waits(w.Imp):
		if isEquation && s.Worker.Holds(equate.Outside, e.Left, e.Right) {
			return nil
		}
	case isEquation:
		return s.Unify(w.Imp, e.Left, e.Right)
	case s.isConstraint(w.Type):
		return s.constraint(w)
	}
	return []api.Want{w}
}

// waits reports whether a given equation can still become another one.
func (s *solver) waits(imp int) bool {
	return s.waiting.Find(s.Worker, imp, func(imp int) bool {
		return slices.ContainsFunc(s.Equations(imp), func(e api.Eq) bool { return s.isOpen(e.Left) || s.isOpen(e.Right) })
	})
}

// isOpen reports whether there is a metavariable in a type, resolved.
func (s *solver) isOpen(t api.Type) bool {
	open := false
	nodes.Visit(s.Resolve(t), func(node api.Type, _ int) { open = open || node.Op == api.YMeta })
	return open
}

// constraint returns what a class constraint becomes.
func (s *solver) constraint(w api.Want) []api.Want {
	c := s.Normal(w.Imp, w.Type)
	given := s.given(w.Imp)
	if isAmong(c, given) {
		return nil
	}
	if context, ok := s.instance(c); ok {
		var wants []api.Want
		for _, t := range context {
			wants = append(wants, api.Want{Imp: w.Imp, Type: t})
		}
		return wants
	}
	for a, b := range s.improvements(c, given) {
		s.Unify(w.Imp, a, b)
	}
	return []api.Want{{Imp: w.Imp, Type: c}}
}

// holds reports whether a constraint holds as things are.
func (s *solver) holds(imp int, t api.Type) bool {
	s.look()
	if e, ok := equate.Sides(t); ok {
		return s.Worker.Holds(imp, e.Left, e.Right)
	}
	if !s.isConstraint(t) {
		return false
	}
	c := s.Normal(imp, t)
	if isAmong(c, s.given(imp)) {
		return true
	}
	context, ok := s.instance(c)
	return ok && !slices.ContainsFunc(context, func(t api.Type) bool { return !s.holds(imp, t) })
}

func isAmong(t api.Type, l []api.Type) bool {
	return slices.ContainsFunc(l, func(u api.Type) bool { return types.Same(t, u) })
}
