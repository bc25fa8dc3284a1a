package core

import (
	"slices"

	"damask/api"
	"damask/leave"
	"damask/types"
)

func named(constant string) api.Type { return api.Type{Op: api.YCon, S: constant} }

func isConstant(t api.Type, name string) bool { return t.Op == api.YCon && t.S == name }

// full leaves if a type that arises is not proper.
func full(t api.Type) api.Type {
	if !isProperType(t) {
		leave.With(api.ErrFull)
	}
	return t
}

func shifted(t api.Type, by int) api.Type {
	if by == 0 {
		return t
	}
	made, e := types.Shift(t, by, 0)
	mustBeCore(e == api.OK, e)
	return made
}

// put puts types for the variables of something that is declared, or bound, the last one for the variable 0.
func put(t api.Type, l []api.Type) api.Type {
	made, e := types.Put(t, l)
	mustBeCore(e == api.OK, e)
	return made
}

func applied(f api.Type, l ...api.Type) api.Type {
	for _, a := range l {
		f = api.Type{Op: api.YApp, Args: []api.Type{f, a}}
	}
	return full(f)
}

func function(a, b api.Type) api.Type { return applied(named("->"), a, b) }

func implication(c, t api.Type) api.Type {
	return full(api.Type{Op: api.YImp, Args: []api.Type{c, t}})
}

func forall(k, t api.Type) api.Type {
	return full(api.Type{Op: api.YAll, Args: []api.Type{k, t}})
}

func equation(a, b api.Type) api.Type { return applied(named("~"), a, b) }

// partsOf returns the arguments of a constant that is applied to two types in a type.
func partsOf(t api.Type, constant string) (api.Type, api.Type, bool) {
	if t.Op != api.YApp || t.Args[0].Op != api.YApp || !isConstant(t.Args[0].Args[0], constant) {
		return api.Type{}, api.Type{}, false
	}
	return t.Args[0].Args[1], t.Args[1], true
}

// own returns the variables of the last n kinds of a context.
func own(n int) []api.Type {
	var l []api.Type
	for i := range n {
		l = append(l, api.Type{Op: api.YVar, N: i})
	}
	slices.Reverse(l)
	return l
}
