// Package nodes goes over the nodes of types, for the layers that look for some of them or make others of them.
package nodes

import "damask/api"

// Visit tells a function of each node of a type, and of how many foralls are around it. The kind of a forall stands outside of it.
func Visit(t api.Type, node func(t api.Type, around int)) { visit(t, 0, node) }

// Replace returns a type in new memory, with what a function makes of the nodes without Args; foralls lose their names.
func Replace(t api.Type, leaf func(t api.Type, around int) api.Type) api.Type {
	return replaced(t, 0, leaf)
}

func visit(t api.Type, around int, node func(t api.Type, around int)) {
	node(t, around)
	for i, a := range t.Args {
		visit(a, around+binds(t, i), node)
	}
}

func replaced(t api.Type, around int, leaf func(t api.Type, around int) api.Type) api.Type {
	if len(t.Args) == 0 {
		return leaf(api.Type{Op: t.Op, N: t.N, S: t.S}, around)
	}
	made := api.Type{Op: t.Op, Args: make([]api.Type, len(t.Args))}
	for i, a := range t.Args {
		made.Args[i] = replaced(a, around+binds(t, i), leaf)
	}
	return made
}

// binds returns how many foralls a type is itself around one of its Args.
func binds(t api.Type, arg int) int {
	if t.Op == api.YAll && arg == 1 {
		return 1
	}
	return 0
}
