package scope

import (
	"damask/api"
	"damask/free"
)

// strength is how an operator binds: how strongly, and to which side.
type strength struct {
	n    int
	side string
}

// usual is the strength of an operator without a DFix.
var usual = strength{9, "infixl"}

// strengths returns what the DFixes of a list say of their operators: the first one of an operator counts.
func strengths(l []api.Decl) map[string]strength {
	found := map[string]strength{}
	for _, d := range l {
		if _, twice := found[d.Name]; d.Op == api.DFix && !twice {
			found[d.Name] = strength{d.N, d.S}
		}
	}
	return found
}

func strengthOf(known map[string]strength, operator string) strength {
	if s, ok := known[operator]; ok {
		return s
	}
	return usual
}

// frame is what is bound at one place: variables, with how they bind as operators, and scoped variables of types. It embeds the frame around it.
type frame struct {
	*frame
	variables map[string]strength
	types     map[string]bool
}

// find looks for a variable from the innermost frame outwards.
func (f *frame) find(name string) (strength, bool) {
	for ; f != nil; f = f.frame {
		if s, ok := f.variables[name]; ok {
			return s, true
		}
	}
	return strength{}, false
}

// scopes reports whether a variable of types is scoped here.
func (f *frame) scopes(name string) bool {
	for ; f != nil; f = f.frame {
		if f.types[name] {
			return true
		}
	}
	return false
}

func (f *frame) withPats(l []api.Pat) *frame {
	in := &frame{frame: f, variables: map[string]strength{}}
	for _, name := range free.Bound(l) {
		in.variables[name] = usual
	}
	return in
}

// withDecls binds what the DBinds of a list define; a DSig alone defines nothing.
func (f *frame) withDecls(l []api.Decl) *frame {
	in := &frame{frame: f, variables: map[string]strength{}}
	known := strengths(l)
	for _, d := range l {
		if d.Op == api.DBind {
			in.variables[d.Name] = strengthOf(known, d.Name)
		}
	}
	return in
}

func (f *frame) withTypes(names []string) *frame {
	in := &frame{frame: f, types: map[string]bool{}}
	for _, name := range names {
		in.types[name] = true
	}
	return in
}
