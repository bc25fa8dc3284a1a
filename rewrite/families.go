// Package rewrite finds the family types in types, matches types, and replaces what has a step, for the layers that reduce types or look for instances.
package rewrite

import (
	"maps"
	"slices"
	"strings"

	"damask/api"
	"damask/types"
)

// Families are the families of an environment that types can name.
type Families map[string]*api.Family

// Known returns the families of an environment, of several with one name the first one. What is built in comes before them, and so do promoted constructors and data types.
func Known(env *api.Env) Families {
	known := Families{}
	for i := range slices.Backward(env.Families) {
		known[env.Families[i].Name] = &env.Families[i]
	}
	for i := range env.Data {
		delete(known, env.Data[i].Name)
	}
	maps.DeleteFunc(known, func(name string, _ *api.Family) bool { return isBuiltin(name) || strings.HasPrefix(name, "'") })
	return known
}

func isBuiltin(name string) bool {
	switch name {
	case "Type", "Constraint", "->", "~", "Int", "Bool", "Unit", "IO", "STM", "TVar":
		return true
	}
	return false
}

// Of returns the family of a family type, and nil for any other type.
func (f Families) Of(t *api.Type) *api.Family {
	arguments := 0
	for t.Op == api.YApp {
		t, arguments = &t.Args[0], arguments+1
	}
	if t.Op != api.YCon {
		return nil
	}
	if found := f[t.S]; found != nil && found.Arity == arguments {
		return found
	}
	return nil
}

// Match compares patterns with as many types, and returns what their variables become, by number. What it returns shares memory with the types.
func (f Families) Match(patterns, l []api.Type) (map[int]api.Type, bool) {
	became := map[int]api.Type{}
	for i := range patterns {
		if !f.matches(&patterns[i], &l[i], became) {
			return nil, false
		}
	}
	return became, true
}

// matches takes a family type as a whole, since its parts will not stay.
func (f Families) matches(pattern, t *api.Type, became map[int]api.Type) bool {
	switch pattern.Op {
	case api.YVar:
		first, bound := became[pattern.N]
		if !bound {
			became[pattern.N] = *t
		}
		return !bound || types.Same(first, *t)
	case api.YCon:
		return t.Op == api.YCon && t.S == pattern.S
	case api.YApp:
		return t.Op == api.YApp && f.Of(t) == nil &&
			f.matches(&pattern.Args[0], &t.Args[0], became) && f.matches(&pattern.Args[1], &t.Args[1], became)
	}
	return false
}
