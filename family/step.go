package family

import (
	"damask/api"
	"damask/nodes"
	"damask/rewrite"
	"damask/types"
)

// solver finds the steps of family types.
type solver struct{ rewrite.Families }

// step returns what a type becomes, if it is a family type that has a step.
func (s solver) step(t api.Type) (api.Type, bool) {
	f := s.Of(&t)
	if f == nil {
		return api.Type{}, false
	}
	_, args, _ := types.Spine(t)
	n, became, ok := s.choose(f, args)
	if !ok {
		return api.Type{}, false
	}
	return put(f.Eqs[n].Right, became), true
}

// choose returns the equation by which a family type has a step, and what its variables become. One that does not match is passed over only if it never will.
func (s solver) choose(f *api.Family, args []api.Type) (int, map[int]api.Type, bool) {
	for n := range f.Eqs {
		equation := &f.Eqs[n]
		if became, ok := s.match(equation, args); ok {
			return n, became, true
		}
		if !s.areApart(equation, args) {
			break
		}
	}
	return 0, nil, false
}

// match wants that all variables become something.
func (s solver) match(equation *api.Axiom, args []api.Type) (map[int]api.Type, bool) {
	became, ok := s.Match(equation.Left, args)
	return became, ok && len(became) == len(equation.Vars)
}

// areApart holds all types that one variable would get against each other: of three of them the first can clash with none, and the other two can clash.
func (s solver) areApart(equation *api.Axiom, args []api.Type) bool {
	got := map[int][]*api.Type{}
	variable := func(n int, t *api.Type) bool {
		for _, other := range got[n] {
			if s.clash(other, t, nothing) {
				return true
			}
		}
		got[n] = append(got[n], t)
		return false
	}
	for i := range args {
		if s.clash(&equation.Left[i], &args[i], variable) {
			return true
		}
	}
	return false
}

// nothing is what a variable of no equation clashes with.
func nothing(int, *api.Type) bool { return false }

// clash reports whether two types clash; what a variable in the first one clashes with, a function says.
func (s solver) clash(t, u *api.Type, variable func(n int, u *api.Type) bool) bool {
	if t.Op == api.YVar {
		return variable(t.N, u)
	}
	a, b := s.shape(t), s.shape(u)
	switch {
	case a == open || b == open:
		return false
	case a != b:
		return true
	case a == api.YCon:
		return t.S != u.S
	case a == api.YApp:
		return s.clash(&t.Args[0], &u.Args[0], variable) || s.clash(&t.Args[1], &u.Args[1], variable)
	}
	return false
}

// open is the shape of what can become anything.
const open = 0

// shape returns the operator of a type, if that stays whatever is put in.
func (s solver) shape(t *api.Type) int {
	switch t.Op {
	case api.YCon:
		if s.Families[t.S] != nil {
			return open
		}
	case api.YApp:
		if s.Of(t) != nil {
			return open
		}
	case api.YVar, api.YMeta, api.YRigid:
		return open
	}
	return t.Op
}

// put returns a type in new memory with types for its free variables. It is not proper if it would be too large.
func put(t api.Type, l map[int]api.Type) api.Type {
	return nodes.Replace(t, func(leaf api.Type, around int) api.Type {
		if leaf.Op != api.YVar || leaf.N < around {
			return leaf
		}
		made, _ := types.Shift(l[leaf.N-around], around, 0)
		return made
	})
}
