package infer

import (
	"damask/api"
	"damask/leave"
	"damask/nodes"
	"damask/types"
)

func named(constant string) api.Type { return api.Type{Op: api.YCon, S: constant} }

// star is the kind of the types of expressions.
func star() api.Type { return named("Type") }

func applied(constant string, l ...api.Type) api.Type {
	return leave.Must(types.Apply(named(constant), l))
}

func equation(a, b api.Type) api.Type { return applied("~", a, b) }

func function(args []api.Type, result api.Type) api.Type {
	return leave.Must(types.Fun(args, result))
}

// put puts types for all variables of a context, the last one for the variable 0.
func put(t api.Type, l ...api.Type) api.Type { return leave.Must(types.Put(t, l)) }

func putEach(l []api.Type, context []api.Type) []api.Type {
	var made []api.Type
	for _, t := range l {
		made = append(made, put(t, context...))
	}
	return made
}

// parts returns the arguments of a constant that is applied to so many in a type.
func parts(t api.Type, constant string, n int) ([]api.Type, bool) {
	head, l, _ := types.Spine(t)
	return l, head.Op == api.YCon && head.S == constant && len(l) == n
}

// nameless returns a type without the names of its foralls.
func nameless(t *api.Type) api.Type {
	return nodes.Replace(*t, func(leaf api.Type, _ int) api.Type { return leaf })
}

// isOpened reports whether a type begins with what an implication is begun for.
func isOpened(t api.Type) bool { return t.Op == api.YAll || t.Op == api.YImp }

// binders returns the names of the foralls that a type begins with: an implicit one has none.
func binders(t *api.Type) []string {
	var names []string
	for ; t.Op == api.YAll; t = &t.Args[1] {
		names = append(names, t.S)
	}
	return names
}
