package family

import (
	"slices"

	"damask/api"
	"damask/nodes"
	"damask/rewrite"
	"damask/types"
)

// isFormed reports whether the families of an environment are formed, also those that no type can name.
func isFormed(env *api.Env, known rewrite.Families) bool {
	return !slices.ContainsFunc(env.Families, func(f api.Family) bool {
		return f.Arity < 0 || f.Arity > api.MaxDepth || slices.ContainsFunc(f.Eqs, func(a api.Axiom) bool {
			return len(a.Left) != f.Arity || !isFormedEquation(known, a)
		})
	})
}

func isFormedEquation(known rewrite.Families, a api.Axiom) bool {
	wrong := func(t api.Type) bool {
		return !areProper(t) || !consistsOf(t, len(a.Vars), api.YVar, api.YCon, api.YApp) || !isPlain(known, t)
	}
	return !slices.ContainsFunc(a.Left, wrong) && areProper(a.Right) &&
		consistsOf(a.Right, len(a.Vars), api.YVar, api.YCon, api.YApp, api.YAll, api.YImp) && isSaturated(known, a.Right, 0)
}

// consistsOf reports whether a type has only nodes with some operators, and only free variables with numbers less than a given one.
func consistsOf(t api.Type, variables int, ops ...int) bool {
	ok := true
	nodes.Visit(t, func(node api.Type, around int) {
		ok = ok && slices.Contains(ops, node.Op) && (node.Op != api.YVar || node.N < around+variables)
	})
	return ok
}

// isSaturated reports whether every family in a type, which stands before so many arguments, has all its arguments.
func isSaturated(known rewrite.Families, t api.Type, arguments int) bool {
	if t.Op == api.YCon {
		f := known[t.S]
		return f == nil || arguments >= f.Arity
	}
	for i, a := range t.Args {
		before := 0
		if t.Op == api.YApp && i == 0 {
			before = arguments + 1
		}
		if !isSaturated(known, a, before) {
			return false
		}
	}
	return true
}

func isPlain(known rewrite.Families, t api.Type) bool {
	plain := true
	nodes.Visit(t, func(node api.Type, _ int) { plain = plain && known.Of(&node) == nil })
	return plain
}

func areProper(l ...api.Type) bool {
	return !slices.ContainsFunc(l, func(t api.Type) bool { return types.Check(t) != api.OK })
}

// anew returns a proper type in new memory.
func anew(t api.Type) api.Type {
	made, _ := types.Shift(t, 0, 0)
	return made
}
