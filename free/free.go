// Package free finds the variables that nothing in expressions binds, and by them the groups of the definitions that need each other, for the layers that resolve names or infer types. It takes all as it is.
package free

import (
	"maps"
	"slices"

	"damask/api"
)

// Variables returns the free variables of an expression, ascending. A do has that of its steps, `bind`, where it needs it.
func Variables(e *api.Expr) []string {
	s := newSearch()
	s.expr(e)
	return s.names()
}

// search goes through expressions for the variables that nothing in them binds.
type search struct {
	bound map[string]int // how often a name is bound around what is looked at
	found map[string]bool
}

func newSearch() *search { return &search{bound: map[string]int{}, found: map[string]bool{}} }

func (s *search) names() []string { return slices.Sorted(maps.Keys(s.found)) }

func (s *search) note(name string) {
	if s.bound[name] == 0 {
		s.found[name] = true
	}
}

// within looks at something in which names are bound.
func (s *search) within(names []string, look func()) {
	for _, name := range names {
		s.bound[name]++
	}
	look()
	for _, name := range names {
		s.bound[name]--
	}
}

// expr points at expressions, since copies of them would fill the stack where they are nested deeply.
func (s *search) expr(e *api.Expr) {
	switch e.Op {
	case api.XVar:
		s.note(e.S)
	case api.XLam:
		s.within(Bound(e.Pats), func() { s.exprs(e.Args) })
	case api.XLet:
		s.within(defined(e.Decls), func() {
			s.decls(e.Decls)
			s.exprs(e.Args)
		})
	case api.XDo:
		s.stmts(e.Stmts)
	case api.XOps:
		for _, name := range e.Fields {
			s.note(name)
		}
		s.exprs(e.Args)
	default:
		s.exprs(e.Args)
		s.alts(e.Alts)
	}
}

func (s *search) exprs(l []api.Expr) {
	for i := range l {
		s.expr(&l[i])
	}
}

func (s *search) decls(l []api.Decl) {
	for i := range l {
		s.alts(l[i].Alts)
	}
}

func (s *search) alts(l []api.Alt) {
	for i := range l {
		a := &l[i]
		s.within(append(Bound(a.Pats), defined(a.Where)...), func() {
			s.decls(a.Where)
			for _, g := range a.Rhs {
				s.exprs(g.If)
				s.expr(&g.Then)
			}
		})
	}
}

// stmts lets each step bind something in those behind it.
func (s *search) stmts(l []api.Stmt) {
	if len(l) == 0 {
		return
	}
	first, rest := &l[0], l[1:]
	if first.Let {
		s.within(defined(first.Decls), func() {
			s.decls(first.Decls)
			s.stmts(rest)
		})
		return
	}
	if len(first.Pat) > 0 || len(rest) > 0 {
		s.note("bind")
	}
	s.expr(&first.Expr)
	s.within(Bound(first.Pat), func() { s.stmts(rest) })
}

// Bound returns the variables that patterns bind, from left to right, as often as they do.
func Bound(l []api.Pat) []string { return withBound(nil, l) }

func withBound(names []string, l []api.Pat) []string {
	for i := range l {
		if l[i].Op == api.PVar || l[i].Op == api.PAs {
			names = append(names, l[i].S)
		}
		names = withBound(names, l[i].Args)
	}
	return names
}

// defined returns the names of the DBinds of a list; a DSig alone defines nothing.
func defined(l []api.Decl) []string {
	var names []string
	for i := range l {
		if l[i].Op == api.DBind {
			names = append(names, l[i].Name)
		}
	}
	return names
}
