package cover

import (
	"slices"

	"damask/api"
	"damask/equate"
	"damask/leave"
	"damask/types"
	"damask/unify"
)

// isMatrix reports whether the types of columns, and what is known of them, are proper, and rows of well built patterns are as long as there are columns.
func isMatrix(rigids []api.Rigid, given, columns []api.Type, rows [][]api.Pat, guarded []bool) bool {
	if len(columns) > api.MaxDepth || len(rows) > api.MaxDecls || len(rows) != len(guarded) || !areTypes(rigids, given, columns) {
		return false
	}
	return !slices.ContainsFunc(rows, func(row []api.Pat) bool { return len(row) != len(columns) || !all(row, isWellBuilt) })
}

// areTypes reports whether types are proper, and rigid variables can be those of a problem.
func areTypes(rigids []api.Rigid, given, l []api.Type) bool {
	proper := func(t api.Type) bool { return types.Check(t) == api.OK }
	return !slices.ContainsFunc(slices.Concat(given, l), func(t api.Type) bool { return !proper(t) }) && unify.Check(api.Problem{Rigids: rigids}) == api.OK
}

// mustBeKnown leaves if proper types have other variables than the rigid ones that there are: nothing can be said of them.
func mustBeKnown(rigids []api.Rigid, given, l []api.Type) {
	p := api.Problem{Rigids: rigids, Imps: []api.Imp{{Parent: equate.Outside, Given: slices.Concat(given, l)}}}
	if unify.Check(p) != api.OK {
		leave.With(api.ErrType)
	}
}

// all points at patterns, since copies of them would fill the stack where they are nested deeply.
func all(l []api.Pat, holds func(*api.Pat) bool) bool {
	for i := range l {
		if !holds(&l[i]) {
			return false
		}
	}
	return true
}

// isWellBuilt takes all names but the empty one.
func isWellBuilt(p *api.Pat) bool {
	args, named, numbered := len(p.Args), p.S != "", p.N != 0
	formed := false
	switch p.Op {
	case api.PWild:
		formed = !named && !numbered && args == 0
	case api.PVar:
		formed = named && !numbered && args == 0
	case api.PCon:
		formed = named && !numbered
	case api.PInt:
		formed = !named && p.N >= 0 && args == 0
	case api.PAs:
		formed = named && !numbered && args == 1
	case api.PBang, api.PLazy:
		formed = !named && !numbered && args == 1
	}
	return formed && all(p.Args, isWellBuilt)
}

// isValue reports whether a pattern is made of constructors, numbers, and what is not looked at.
func isValue(p *api.Pat) bool {
	return (p.Op == api.PCon || p.Op == api.PInt || p.Op == api.PWild) && all(p.Args, isValue)
}
