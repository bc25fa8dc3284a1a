package infer

import (
	"slices"

	"damask/api"
)

// around is what is bound around an expression.
type around struct {
	variables *frame
	scoped    []scoped // the innermost last
}

// frame has the types of the variables that are bound at one place.
type frame struct {
	outer *frame
	types map[string]api.Type
}

// scoped is a type variable that has a name, with what it stands for.
type scoped struct {
	name string
	t    api.Type
}

// inside returns what is bound around something, with room for further variables.
func (in around) inside() around {
	in.variables = &frame{in.variables, map[string]api.Type{}}
	return in
}

func (in around) bind(name string, t api.Type) { in.variables.types[name] = t }

// variable looks for the type of a variable from the innermost frame outwards.
func (in around) variable(name string) (api.Type, bool) {
	for f := in.variables; f != nil; f = f.outer {
		if t, ok := f.types[name]; ok {
			return t, true
		}
	}
	return api.Type{}, false
}

// withScoped adds type variables, of which some have no name. What is bound elsewhere may go on in the same memory, and so it is copied.
func (in around) withScoped(names []string, l []api.Type) around {
	for i, name := range names {
		if name != "" {
			in.scoped = append(in.scoped[:len(in.scoped):len(in.scoped)], scoped{name, l[i]})
		}
	}
	return in
}

// typeVariable looks for what a type variable stands for from the innermost one outwards.
func (in around) typeVariable(name string) (api.Type, bool) {
	for _, s := range slices.Backward(in.scoped) {
		if s.name == name {
			return s.t, true
		}
	}
	return api.Type{}, false
}
