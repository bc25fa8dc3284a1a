package scope

import (
	"slices"
	"strings"

	"damask/api"
	"damask/leave"
	"damask/syntax"
)

// constant returns the full name of a type, or of a promoted constructor.
func (r *resolver) constant(name string) string {
	if con, promoted := strings.CutPrefix(name, "'"); promoted {
		return "'" + r.value(con)
	}
	full := r.types[name]
	if full == "" {
		leave.With(api.ErrName)
	}
	return full
}

// closed resolves a type in which all names of variables are bound or scoped.
func (r *resolver) closed(f *frame, t *api.Type) api.Type {
	if len(unknown(f, t)) > 0 {
		leave.With(api.ErrName)
	}
	return r.inside(t, nil)
}

// generalized resolves a type around which foralls without a name bind the names that are not bound or scoped.
func (r *resolver) generalized(f *frame, t *api.Type) api.Type {
	names := unknown(f, t)
	made := r.inside(t, names)
	for range names {
		made = api.Type{Op: api.YAll, Args: []api.Type{{Op: api.YCon, S: "Type"}, made}}
	}
	return made
}

// unknown returns the names in a type that neither it nor a frame binds.
func unknown(f *frame, t *api.Type) []string {
	names, _ := syntax.Names(*t)
	return slices.DeleteFunc(names, f.scopes)
}

// inside resolves a type within foralls of some names, the first one outermost; the other names are scoped. The kind of a forall stands outside of it.
func (r *resolver) inside(t *api.Type, bound []string) api.Type {
	switch t.Op {
	case api.YCon:
		return api.Type{Op: t.Op, S: r.constant(t.S)}
	case api.YName:
		for n, name := range slices.Backward(bound) {
			if name == t.S {
				return api.Type{Op: api.YVar, N: len(bound) - 1 - n}
			}
		}
		return api.Type{Op: t.Op, S: t.S}
	}
	left := r.inside(&t.Args[0], bound)
	if t.Op == api.YAll {
		bound = append(slices.Clip(bound), t.S)
	}
	return api.Type{Op: t.Op, S: t.S, Args: []api.Type{left, r.inside(&t.Args[1], bound)}}
}

// explicit returns the names of the foralls that a type begins with.
func explicit(t *api.Type) []string {
	var names []string
	for ; t.Op == api.YAll; t = &t.Args[1] {
		names = append(names, t.S)
	}
	return names
}
