package scope

import (
	"slices"

	"damask/api"
	"damask/syntax"
)

// Package syntax checks what has the names of a module. Of what may have any names, the functions of this file make a copy in which a name that is not empty has the form that is wanted at its place; all else they leave as it is.

func checkExpr(e api.Expr) api.Errno {
	formExpr(&e)
	return syntax.CheckExpr(e)
}

func checkDecls(l []api.Decl) api.Errno {
	return syntax.Check(api.Module{Name: "X", All: true, Decls: formedDecls(l)})
}

func isFix(d api.Decl) bool {
	return d.Op == api.DFix && checkDecls([]api.Decl{d}) == api.OK
}

// formed changes all items of a copy of a list. They are pointed at, since copies of them would fill the stack where they are nested deeply.
func formed[T any](l []T, form func(*T)) []T {
	l = slices.Clone(l)
	for i := range l {
		form(&l[i])
	}
	return l
}

func rename(s *string, name string) {
	if *s != "" {
		*s = name
	}
}

func small(s *string)   { rename(s, "x") }
func capital(s *string) { rename(s, "X") }
func inRun(s *string)   { rename(s, "+") }

// formedDecls gives DBinds that follow each other one name just if they had one.
func formedDecls(l []api.Decl) []api.Decl {
	made := formed(l, formDecl)
	for i := range made {
		if i > 0 && l[i].Op == api.DBind && (l[i].Name == l[i-1].Name) == (made[i-1].Name == "y") {
			rename(&made[i].Name, "y")
		}
	}
	return made
}

func formDecl(d *api.Decl) {
	switch d.Op {
	case api.DData, api.DNew, api.DFamily, api.DClass:
		capital(&d.Name)
	case api.DSig, api.DBind:
		small(&d.Name)
	case api.DFix:
		inRun(&d.Name)
	}
	formType(&d.Type)
	d.Cons = formed(d.Cons, func(c *api.Con) {
		capital(&c.Name)
		formType(&c.Type)
		c.Fields = formed(c.Fields, small)
	})
	d.Deriving = formed(d.Deriving, capital)
	d.Eqs = formed(d.Eqs, func(e *api.Eq) {
		formType(&e.Left)
		formType(&e.Right)
	})
	d.Vars = formed(d.Vars, func(b *api.Binder) {
		small(&b.Name)
		formType(&b.Kind)
	})
	d.Context = formed(d.Context, formType)
	d.Deps = formed(d.Deps, func(x *api.Dep) {
		x.From, x.To = formed(x.From, small), formed(x.To, small)
	})
	d.Sigs = formed(d.Sigs, func(s *api.Sig) {
		small(&s.Name)
		formType(&s.Type)
	})
	d.Alts = formed(d.Alts, formAlt)
	d.Decls = formedDecls(d.Decls)
}

func formAlt(a *api.Alt) {
	a.Pats = formed(a.Pats, formPat)
	a.Rhs = formed(a.Rhs, func(g *api.Guard) {
		g.If = formed(g.If, formExpr)
		formExpr(&g.Then)
	})
	a.Where = formedDecls(a.Where)
}

func formExpr(e *api.Expr) {
	field := small
	switch e.Op {
	case api.XVar:
		small(&e.S)
	case api.XCon, api.XRec:
		capital(&e.S)
	case api.XOps:
		field = inRun
	}
	e.Fields = formed(e.Fields, field)
	e.Args = formed(e.Args, formExpr)
	e.Types = formed(e.Types, formType)
	e.Pats = formed(e.Pats, formPat)
	e.Decls = formedDecls(e.Decls)
	e.Alts = formed(e.Alts, formAlt)
	e.Stmts = formed(e.Stmts, func(s *api.Stmt) {
		s.Pat = formed(s.Pat, formPat)
		formExpr(&s.Expr)
		s.Decls = formedDecls(s.Decls)
	})
}

func formPat(p *api.Pat) {
	switch p.Op {
	case api.PVar, api.PAs:
		small(&p.S)
	case api.PCon:
		capital(&p.S)
	}
	p.Args = formed(p.Args, formPat)
}

func formType(t *api.Type) {
	switch {
	case t.Op == api.YName || t.Op == api.YAll:
		small(&t.S)
	case t.Op == api.YCon && t.S != "->" && t.S != "~": // these two have a meaning
		capital(&t.S)
	}
	t.Args = formed(t.Args, formType)
}
