package types

import (
	"maps"
	"slices"

	"damask/api"
	"damask/nodes"
	"damask/proper"
)

// shift also reports whether no variable gets a number less than from.
func shift(t api.Type, by, from int) (api.Type, bool) {
	kept := true
	shifted := nodes.Replace(t, func(leaf api.Type, around int) api.Type {
		if leaf.Op == api.YVar && leaf.N >= around+from {
			leaf.N += by
			kept = kept && leaf.N >= around+from
		}
		return leaf
	})
	return shifted, kept
}

// full returns a result, if it is proper.
func full(t api.Type) (api.Type, api.Errno) {
	if !proper.Type(t) {
		return api.Type{}, api.ErrFull
	}
	return t, api.OK
}

func properList(l []api.Type) bool {
	return len(l) <= api.MaxNodes && !slices.ContainsFunc(l, func(t api.Type) bool { return !proper.Type(t) })
}

func numbersOf(t api.Type, op int) ([]int, api.Errno) {
	if !proper.Type(t) {
		return nil, api.ErrArg
	}
	found := map[int]bool{}
	nodes.Visit(t, func(node api.Type, _ int) {
		if node.Op == op {
			found[node.N] = true
		}
	})
	return slices.Sorted(maps.Keys(found)), api.OK
}

func freeNumbers(t api.Type) []int {
	found := map[int]bool{}
	nodes.Visit(t, func(node api.Type, around int) {
		if node.Op == api.YVar && node.N >= around {
			found[node.N-around] = true
		}
	})
	return slices.Sorted(maps.Keys(found))
}

func size(t api.Type) int {
	n := 0
	nodes.Visit(t, func(api.Type, int) { n++ })
	return n
}

func applied(f, a api.Type) api.Type { return api.Type{Op: api.YApp, Args: []api.Type{f, a}} }

func isFunction(t api.Type) bool {
	if t.Op != api.YApp || t.Args[0].Op != api.YApp {
		return false
	}
	head := t.Args[0].Args[0]
	return head.Op == api.YCon && head.S == "->"
}

// same points at types, since copies of them would fill the stack where they are nested deeply.
func same(a, b *api.Type) bool {
	if a.Op != b.Op || a.N != b.N || a.S != b.S || len(a.Args) != len(b.Args) {
		return false
	}
	for i := range a.Args {
		if !same(&a.Args[i], &b.Args[i]) {
			return false
		}
	}
	return true
}
