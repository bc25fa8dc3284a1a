package scope

import (
	"slices"

	"damask/api"
	"damask/free"
	"damask/leave"
	"damask/syntax"
)

// resolver makes the declarations of a module anew, with full names. It embeds a walker for the expressions in them.
type resolver struct {
	walker
	space
	strengths map[string]strength // of operators of all modules so far, by their full names
}

// resolved returns the program that modules are.
func resolved(l []api.Module) api.Program {
	exports := map[string]space{}
	operators := map[string]strength{}
	var p api.Program
	for _, n := range ordered(l) {
		m := &l[n]
		exports[m.Name] = exported(m)
		r := newResolver(known(m, exports), operators)
		r.addOperators(m)
		p.Decls = append(p.Decls, r.module(m)...)
	}
	p.Groups = free.Groups(p.Decls)
	return p
}

func newResolver(s space, operators map[string]strength) *resolver {
	r := &resolver{space: s, strengths: operators}
	r.walker = walker{expr: r.expression, pats: r.patterns, decls: r.locals}
	return r
}

// addOperators learns the DFixes of a module, of operators that it declares itself.
func (r *resolver) addOperators(m *api.Module) {
	own := declared(m).values
	for _, d := range m.Decls {
		if d.Op == api.DFix && own[d.Name] == "" {
			leave.With(api.ErrName)
		}
	}
	once(m.Decls, api.DFix)
	for name, s := range strengths(m.Decls) {
		r.strengths[own[name]] = s
	}
}

func (r *resolver) module(m *api.Module) []api.Decl {
	var l []api.Decl
	signed := scopedNames(m.Decls)
	bound := defined(m.Decls)
	for i := range m.Decls {
		d := &m.Decls[i]
		switch d.Op {
		case api.DFix: // known already, and not in the program
		case api.DSig, api.DBind:
			made := r.half(nil, d, signed, bound)
			made.Name = r.value(d.Name)
			l = append(l, made)
		default:
			l = append(l, r.global(d))
		}
	}
	return l
}

// global resolves a declaration that is only there in a module.
func (r *resolver) global(d *api.Decl) api.Decl {
	made := api.Decl{Op: d.Op}
	switch d.Op {
	case api.DData, api.DNew:
		made.Type = r.closed(nil, &d.Type)
		made.Cons = each(d.Cons, r.con)
		made.Deriving = each(d.Deriving, func(name *string) string { return r.constant(*name) })
	case api.DFamily:
		made.Type = r.closed(nil, &d.Type)
		made.Eqs = each(d.Eqs, r.equation)
	case api.DClass:
		return r.class(d)
	case api.DInst:
		return r.instance(d)
	}
	made.Name = r.constant(d.Name)
	return made
}

func (r *resolver) con(c *api.Con) api.Con {
	return api.Con{Name: r.value(c.Name), Type: r.generalized(nil, &c.Type), Fields: r.allValues(c.Fields)}
}

// equation leaves the variables of its left side as they are, on both sides.
func (r *resolver) equation(e *api.Eq) api.Eq {
	names, _ := syntax.Names(e.Left)
	f := (*frame)(nil).withTypes(names)
	return api.Eq{Left: r.closed(f, &e.Left), Right: r.closed(f, &e.Right)}
}

func (r *resolver) class(d *api.Decl) api.Decl {
	made := api.Decl{Op: d.Op, Name: r.constant(d.Name)}
	var names []string
	for _, v := range d.Vars {
		names = append(names, v.Name)
	}
	f := (*frame)(nil).withTypes(names)
	made.Context = each(d.Context, func(t *api.Type) api.Type { return r.closed(f, t) })
	made.Vars = each(d.Vars, func(v *api.Binder) api.Binder { return api.Binder{Name: v.Name, Kind: r.closed(nil, &v.Kind)} })
	made.Deps = each(d.Deps, func(x *api.Dep) api.Dep {
		return api.Dep{From: slices.Clone(x.From), To: slices.Clone(x.To)}
	})
	made.Sigs = each(d.Sigs, func(s *api.Sig) api.Sig {
		return api.Sig{Name: r.value(s.Name), Type: r.generalized(f, &s.Type)}
	})
	return made
}

func (r *resolver) instance(d *api.Decl) api.Decl {
	f := (*frame)(nil).withTypes(explicit(&d.Type))
	once(d.Decls, api.DBind)
	methods := each(d.Decls, func(m *api.Decl) api.Decl {
		made := r.half(f, m, nil, nil)
		made.Name = r.value(m.Name)
		return made
	})
	return api.Decl{Op: d.Op, Type: r.generalized(nil, &d.Type), Decls: methods}
}

// locals resolves local declarations, of which the DFixes are left out.
func (r *resolver) locals(f *frame, l []api.Decl) []api.Decl {
	once(l, api.DSig, api.DBind, api.DFix)
	signed, bound := scopedNames(l), defined(l)
	var made []api.Decl
	for i := range l {
		d := &l[i]
		if d.Op != api.DFix {
			made = append(made, r.half(f, d, signed, bound))
		} else if !bound[d.Name] {
			leave.With(api.ErrName)
		}
	}
	return made
}

// half resolves a DSig or a DBind, in a list with some scoped variables of types by names of DSigs, and some names of DBinds.
func (r *resolver) half(f *frame, d *api.Decl, signed map[string][]string, bound map[string]bool) api.Decl {
	if d.Op == api.DSig {
		if !bound[d.Name] {
			leave.With(api.ErrName)
		}
		return api.Decl{Op: d.Op, Name: d.Name, Type: r.generalized(f, &d.Type)}
	}
	first := d.Alts[0]
	for _, a := range d.Alts {
		if len(a.Pats) != len(first.Pats) || len(a.Pats) == 0 && len(d.Alts) > 1 {
			leave.With(api.ErrForm)
		}
	}
	return api.Decl{Op: d.Op, Name: d.Name, Alts: r.alts(f.withTypes(signed[d.Name]), d.Alts)}
}

// scopedNames returns the scoped variables of types that the DSigs of a list have, by the names of these.
func scopedNames(l []api.Decl) map[string][]string {
	found := map[string][]string{}
	for i := range l {
		if l[i].Op == api.DSig {
			found[l[i].Name] = explicit(&l[i].Type)
		}
	}
	return found
}

func defined(l []api.Decl) map[string]bool {
	found := map[string]bool{}
	for _, d := range l {
		if d.Op == api.DBind {
			found[d.Name] = true
		}
	}
	return found
}

func (r *resolver) value(name string) string {
	full := r.values[name]
	if full == "" {
		leave.With(api.ErrName)
	}
	return full
}

func (r *resolver) allValues(l []string) []string {
	return each(l, func(name *string) string { return r.value(*name) })
}
