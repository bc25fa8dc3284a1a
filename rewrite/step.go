package rewrite

import (
	"damask/api"
	"damask/nodes"
	"damask/types"
)

// Step returns what a type becomes, if it is a family type that has a step.
func (f Families) Step(t api.Type) (api.Type, bool) {
	of := f.Of(&t)
	if of == nil {
		return api.Type{}, false
	}
	_, args, _ := types.Spine(t)
	n, became, ok := f.Choose(of, args)
	if !ok {
		return api.Type{}, false
	}
	return Put(of.Eqs[n].Right, became), true
}

// Choose returns the equation by which a family applied to arguments has a step, and what its variables become. One that does not match is passed over only if it never will.
func (f Families) Choose(of *api.Family, args []api.Type) (int, map[int]api.Type, bool) {
	for n := range of.Eqs {
		equation := &of.Eqs[n]
		if became, ok := f.MatchEquation(equation, args); ok {
			return n, became, true
		}
		if !f.AreApart(equation, args) {
			break
		}
	}
	return 0, nil, false
}

// MatchEquation wants that all variables of an equation become something.
func (f Families) MatchEquation(equation *api.Axiom, args []api.Type) (map[int]api.Type, bool) {
	became, ok := f.Match(equation.Left, args)
	return became, ok && len(became) == len(equation.Vars)
}

// AreApart holds all types that one variable would get against each other: of three of them the first can clash with none, and the other two can clash.
func (f Families) AreApart(equation *api.Axiom, args []api.Type) bool {
	got := map[int][]*api.Type{}
	variable := func(n int, t *api.Type) bool {
		for _, other := range got[n] {
			if f.clash(other, t, nothing) {
				return true
			}
		}
		got[n] = append(got[n], t)
		return false
	}
	for i := range args {
		if f.clash(&equation.Left[i], &args[i], variable) {
			return true
		}
	}
	return false
}

// Clash reports whether two types can never become the same.
func (f Families) Clash(t, u api.Type) bool { return f.clash(&t, &u, nothing) }

// nothing is what a variable of no equation clashes with.
func nothing(int, *api.Type) bool { return false }

// clash reports whether two types clash; what a variable in the first one clashes with, a function says.
func (f Families) clash(t, u *api.Type, variable func(n int, u *api.Type) bool) bool {
	if t.Op == api.YVar {
		return variable(t.N, u)
	}
	a, b := f.shape(t), f.shape(u)
	switch {
	case a == open || b == open:
		return false
	case a != b:
		return true
	case a == api.YCon:
		return t.S != u.S
	case a == api.YApp:
		return f.clash(&t.Args[0], &u.Args[0], variable) || f.clash(&t.Args[1], &u.Args[1], variable)
	}
	return false
}

// open is the shape of what can become anything.
const open = 0

// shape returns the operator of a type, if that stays whatever is put in.
func (f Families) shape(t *api.Type) int {
	switch t.Op {
	case api.YCon:
		if f[t.S] != nil {
			return open
		}
	case api.YApp:
		if f.Of(t) != nil {
			return open
		}
	case api.YVar, api.YMeta, api.YRigid:
		return open
	}
	return t.Op
}

// Put returns a type in new memory with types for its free variables, by number. It is not proper if it would be too large.
func Put(t api.Type, l map[int]api.Type) api.Type {
	return nodes.Replace(t, func(leaf api.Type, around int) api.Type {
		if leaf.Op != api.YVar || leaf.N < around {
			return leaf
		}
		made, _ := types.Shift(l[leaf.N-around], around, 0)
		return made
	})
}
