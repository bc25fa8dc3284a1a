package kind

import (
	"slices"
	"strings"

	"damask/api"
	"damask/types"
)

const (
	tick     = "'" // begins the name of a promoted constructor
	equality = "~" // has no kind
)

// constant is what is known of a constant: its kind, and how many arguments it must have where it stands.
type constant struct {
	kind  api.Type
	arity int
}

// find looks for a constant: what is built in comes first, and a tick leads to constructors alone.
func find(env *api.Env, name string) (constant, api.Errno) {
	if k, ok := builtin(name); ok {
		return constant{kind: k}, api.OK
	}
	if name == equality {
		return constant{}, api.ErrName
	}
	if bare, ok := strings.CutPrefix(name, tick); ok {
		return findConstructor(env, bare)
	}
	if d := first(env.Data, name, func(d *api.DataType) string { return d.Name }); d != nil {
		return declared(d.Kind, 0)
	}
	if f := first(env.Families, name, func(f *api.Family) string { return f.Name }); f != nil {
		return declared(f.Kind, f.Arity)
	}
	if c := first(env.Classes, name, func(c *api.Class) string { return c.Name }); c != nil {
		k, _ := types.Fun(c.Vars, named("Constraint"))
		return declared(k, 0)
	}
	return constant{}, api.ErrName
}

// findConstructor finds no kind for a constructor that refines types, or that constraints are given for.
func findConstructor(env *api.Env, name string) (constant, api.Errno) {
	c := first(env.Cons, name, func(c *api.DataCon) string { return c.Name })
	if c == nil || len(c.Given) > 0 || len(c.Eqs) > 0 {
		return constant{}, api.ErrName
	}
	return declared(promoted(c), 0)
}

// first returns the first item of a list that has a name, or nil.
func first[T any](l []T, name string, nameOf func(*T) string) *T {
	for i := range l {
		if nameOf(&l[i]) == name {
			return &l[i]
		}
	}
	return nil
}

// declared looks at a kind only when it is used: an environment can have others that are not proper.
func declared(k api.Type, arity int) (constant, api.Errno) {
	if !isProper(k) {
		return constant{}, api.ErrFull
	}
	return constant{k, arity}, api.OK
}

// promoted returns the kind of a promoted constructor. What cannot be made of its parts is zero, and so the whole is not proper.
func promoted(c *api.DataCon) api.Type {
	kinds := slices.Concat(c.Univ, c.Exis)
	var univ []api.Type
	for i := range c.Univ {
		univ = append(univ, api.Type{Op: api.YVar, N: len(kinds) - 1 - i})
	}
	data, _ := types.Apply(named(c.Data), univ)
	k, _ := types.Fun(c.Args, data)
	for _, of := range slices.Backward(kinds) {
		k = api.Type{Op: api.YAll, Args: []api.Type{of, k}}
	}
	return k
}

func builtin(name string) (api.Type, bool) {
	k := named("Type")
	var arguments []api.Type
	switch name {
	case "Type", "Constraint", "Int", "Bool", "Unit":
	case "->":
		arguments = []api.Type{k, k}
	case "IO", "STM", "TVar":
		arguments = []api.Type{k}
	case "'False", "'True":
		k = named("Bool")
	case "'Unit":
		k = named("Unit")
	default:
		return api.Type{}, false
	}
	k, _ = types.Fun(arguments, k)
	return k, true
}

func named(constant string) api.Type { return api.Type{Op: api.YCon, S: constant} }
