package cover

import (
	"slices"

	"damask/api"
	"damask/equate"
	"damask/unify"
)

// isMatrix reports whether the types of columns, and what is known of them, are proper, and rows of well built patterns are as long as there are columns.
func isMatrix(rigids []api.Rigid, given, columns []api.Type, rows [][]api.Pat, guarded []bool) bool {
	if len(columns) > api.MaxDepth || len(rows) > api.MaxDecls || len(rows) != len(guarded) || !areTypes(rigids, given, columns) {
		return false
	}
	return !slices.ContainsFunc(rows, func(row []api.Pat) bool { return len(row) != len(columns) || !all(row, isWellBuilt) })
}

// areTypes reports whether types are proper and have rigid variables alone that there are: then a problem that has them is formed.
func areTypes(rigids []api.Rigid, given, l []api.Type) bool {
	return unify.Check(api.Problem{Rigids: rigids, Imps: []api.Imp{{Parent: equate.Outside, Given: slices.Concat(given, l)}}}) == api.OK
}

// all points at patterns, since copies of them would fill the stack where they are nested deeply.
func all(l []api.Pat, holds func(*api.Pat) bool) bool {
	for i := range l {
		if !holds(&l[i]) {
			return false
		}
	}
	return true
}

// isWellBuilt takes all names but the empty one.
func isWellBuilt(p *api.Pat) bool {
	args, named, numbered := len(p.Args), p.S != "", p.N != 0
	formed := false
	switch p.Op {
	case api.PWild:
		formed = !named && !numbered && args == 0
	case api.PVar:
		formed = named && !numbered && args == 0
	case api.PCon:
		formed = named && !numbered
	case api.PInt:
		formed = !named && p.N >= 0 && args == 0
	case api.PAs:
		formed = named && !numbered && args == 1
	case api.PBang, api.PLazy:
		formed = !named && !numbered && args == 1
	}
	return formed && all(p.Args, isWellBuilt)
}

// isValue reports whether a pattern is made of constructors, numbers, and what is not looked at.
func isValue(p *api.Pat) bool {
	return (p.Op == api.PCon || p.Op == api.PInt || p.Op == api.PWild) && all(p.Args, isValue)
}
