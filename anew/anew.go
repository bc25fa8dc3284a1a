// Package anew copies declarations and environments into new memory, for the layers whose results must share none with their arguments.
package anew

import (
	"slices"

	"damask/api"
)

// Each returns what a function makes of the items of a list.
func Each[T, U any](l []T, item func(*T) U) []U {
	if len(l) == 0 {
		return nil
	}
	made := make([]U, len(l))
	for i := range l {
		made[i] = item(&l[i])
	}
	return made
}

// Type copies a type, with the names of its foralls.
func Type(t *api.Type) api.Type {
	return api.Type{Op: t.Op, N: t.N, S: t.S, Args: Types(t.Args)}
}

// Types copies types.
func Types(l []api.Type) []api.Type { return Each(l, Type) }

// Program copies a program.
func Program(p *api.Program) api.Program {
	return api.Program{Decls: Decls(p.Decls), Groups: Each(p.Groups, cloned[int])}
}

// cloned copies a list whose items have no memory of their own.
func cloned[T any](l *[]T) []T { return slices.Clone(*l) }
