package decl

import (
	"slices"

	"damask/api"
	"damask/leave"
	"damask/nodes"
	"damask/types"
)

func named(constant string) api.Type { return api.Type{Op: api.YCon, S: constant} }

func variable(n int) api.Type { return api.Type{Op: api.YVar, N: n} }

func isConstant(t api.Type, name string) bool { return t.Op == api.YCon && t.S == name }

func applied(f api.Type, l ...api.Type) api.Type {
	for _, a := range l {
		f = api.Type{Op: api.YApp, Args: []api.Type{f, a}}
	}
	return f
}

// function returns the type of functions from some types to the last one.
func function(l ...api.Type) api.Type {
	last := len(l) - 1
	t := l[last]
	for _, a := range slices.Backward(l[:last]) {
		t = applied(named("->"), a, t)
	}
	return t
}

// foralls binds variables of some kinds, each kind in the context of those before it.
func foralls(kinds []api.Type, body api.Type) api.Type {
	for _, k := range slices.Backward(kinds) {
		body = api.Type{Op: api.YAll, Args: []api.Type{k, body}}
	}
	return body
}

func implications(constraints []api.Type, body api.Type) api.Type {
	for _, c := range slices.Backward(constraints) {
		body = api.Type{Op: api.YImp, Args: []api.Type{c, body}}
	}
	return body
}

// variables returns the first n variables of a context of so many.
func variables(n, of int) []api.Type {
	var l []api.Type
	for i := range n {
		l = append(l, variable(of-1-i))
	}
	return l
}

// split takes off the foralls and then the implications that a type begins with.
func split(t api.Type) (kinds, constraints []api.Type, rest api.Type) {
	for ; t.Op == api.YAll; t = t.Args[1] {
		kinds = append(kinds, t.Args[0])
	}
	for ; t.Op == api.YImp; t = t.Args[1] {
		constraints = append(constraints, t.Args[0])
	}
	return kinds, constraints, t
}

// parameters returns the kinds of what a kind is applied to until nothing more is wanted, each in the context of those before it.
func parameters(k api.Type) []api.Type {
	var kinds []api.Type
	for {
		if k.Op == api.YAll {
			kinds, k = append(kinds, k.Args[0]), k.Args[1]
			continue
		}
		l, result, _ := types.Arguments(k)
		if len(l) == 0 {
			return kinds
		}
		kinds = append(kinds, l[0])
		k = leave.Must(types.Shift(function(append(l[1:], result)...), 1, 0))
	}
}

// nameless returns a type without names: what a variable of a name becomes, a function says.
func nameless(t *api.Type, variable func(name string, around int) api.Type) api.Type {
	return nodes.Replace(*t, func(leaf api.Type, around int) api.Type {
		if leaf.Op == api.YName {
			return variable(leaf.S, around)
		}
		return leaf
	})
}

// inContext makes the variables of some names those of a context, the last one the variable 0.
func inContext(names ...string) func(name string, around int) api.Type {
	return func(name string, around int) api.Type {
		return variable(len(names) - 1 - position(names, name) + around)
	}
}

func rigidly(names []string) func(name string, around int) api.Type {
	return func(name string, _ int) api.Type {
		return api.Type{Op: api.YRigid, N: position(names, name)}
	}
}

func position(names []string, name string) int {
	i := slices.Index(names, name)
	if i < 0 {
		leave.With(api.ErrName)
	}
	return i
}

// proper leaves if a type is not proper.
func proper(t api.Type) api.Type {
	if types.Check(t) != api.OK {
		leave.With(api.ErrFull)
	}
	return t
}

func hasTwice(names []string) bool {
	seen := map[string]bool{}
	for _, name := range names {
		if seen[name] {
			return true
		}
		seen[name] = true
	}
	return false
}
