package scope

import (
	"slices"

	"damask/api"
)

// walker makes expressions anew. What becomes of an expression in its frame, of patterns, and of local declarations in a frame that has what they bind, its functions say; they can leave the parts to parts, asIs and likeBefore.
type walker struct {
	expr  func(f *frame, e *api.Expr) api.Expr
	pats  func(l []api.Pat) []api.Pat
	decls func(f *frame, l []api.Decl) []api.Decl
}

// each makes a list of what a function makes of the items of another one.
func each[T, U any](l []T, item func(*T) U) []U {
	made := make([]U, len(l))
	for i := range l {
		made[i] = item(&l[i])
	}
	return made
}

// parts makes an expression anew of its parts, each in its frame.
func (w *walker) parts(f *frame, e *api.Expr) api.Expr {
	in := f
	switch e.Op {
	case api.XLam:
		in = f.withPats(e.Pats)
	case api.XLet:
		in = f.withDecls(e.Decls)
	}
	made := api.Expr{Op: e.Op, S: e.S, N: e.N, Types: each(e.Types, typeAsIs), Fields: slices.Clone(e.Fields)}
	made.Pats = w.pats(e.Pats)
	made.Decls = w.decls(in, e.Decls)
	made.Args = each(e.Args, func(a *api.Expr) api.Expr { return w.expr(in, a) })
	made.Alts = w.alts(f, e.Alts)
	made.Stmts = w.stmts(f, e.Stmts)
	return made
}

func (w *walker) alts(f *frame, l []api.Alt) []api.Alt {
	return each(l, func(a *api.Alt) api.Alt {
		in := f.withPats(a.Pats).withDecls(a.Where)
		guard := func(g *api.Guard) api.Guard {
			conds := each(g.If, func(e *api.Expr) api.Expr { return w.expr(in, e) })
			return api.Guard{If: conds, Then: w.expr(in, &g.Then)}
		}
		pats := w.pats(a.Pats)
		where := w.decls(in, a.Where)
		return api.Alt{Pats: pats, Rhs: each(a.Rhs, guard), Where: where}
	})
}

// stmts binds what each Stmt binds in those after it.
func (w *walker) stmts(f *frame, l []api.Stmt) []api.Stmt {
	return each(l, func(s *api.Stmt) api.Stmt {
		if s.Let {
			f = f.withDecls(s.Decls)
			return api.Stmt{Let: true, Decls: w.decls(f, s.Decls)}
		}
		made := api.Stmt{Pat: w.pats(s.Pat), Expr: w.expr(f, &s.Expr)}
		f = f.withPats(s.Pat)
		return made
	})
}

// likeBefore makes local declarations anew with their Alts alone walked through.
func (w *walker) likeBefore(f *frame, l []api.Decl) []api.Decl {
	return each(l, func(d *api.Decl) api.Decl {
		return api.Decl{Op: d.Op, Name: d.Name, S: d.S, N: d.N, Type: typeAsIs(&d.Type), Alts: w.alts(f, d.Alts)}
	})
}

func asIs(l []api.Pat) []api.Pat {
	return each(l, func(p *api.Pat) api.Pat {
		return api.Pat{Op: p.Op, S: p.S, N: p.N, Args: asIs(p.Args)}
	})
}

func typeAsIs(t *api.Type) api.Type {
	return api.Type{Op: t.Op, N: t.N, S: t.S, Args: each(t.Args, typeAsIs)}
}

// undone is what the Stmts of a do become, the last one of which is an expression.
func undone(l []api.Stmt) api.Expr {
	s, rest := l[0], l[1:]
	switch {
	case s.Let:
		return api.Expr{Op: api.XLet, Decls: s.Decls, Args: []api.Expr{undone(rest)}}
	case len(s.Pat) > 0:
		return bound(s.Expr, s.Pat, rest)
	case len(rest) > 0:
		return bound(s.Expr, []api.Pat{{Op: api.PWild}}, rest)
	}
	return s.Expr
}

func bound(e api.Expr, pats []api.Pat, rest []api.Stmt) api.Expr {
	then := api.Expr{Op: api.XLam, Pats: pats, Args: []api.Expr{undone(rest)}}
	return applied(variable("bind"), e, then)
}

func variable(name string) api.Expr { return api.Expr{Op: api.XVar, S: name} }

func applied(f api.Expr, args ...api.Expr) api.Expr {
	for _, a := range args {
		f = api.Expr{Op: api.XApp, Args: []api.Expr{f, a}}
	}
	return f
}
