package anew

import (
	"slices"

	"damask/api"
)

// Decls copies declarations.
func Decls(l []api.Decl) []api.Decl { return Each(l, decl) }

func decl(d *api.Decl) api.Decl {
	return api.Decl{
		Op: d.Op, Name: d.Name, S: d.S, N: d.N, Type: Type(&d.Type), Deriving: slices.Clone(d.Deriving),
		Cons: Each(d.Cons, con), Eqs: Each(d.Eqs, equation), Vars: Each(d.Vars, binder), Context: Types(d.Context),
		Deps: Each(d.Deps, dep), Sigs: Each(d.Sigs, sig), Alts: Each(d.Alts, alt), Decls: Decls(d.Decls),
	}
}

func con(c *api.Con) api.Con {
	return api.Con{Name: c.Name, Type: Type(&c.Type), Fields: slices.Clone(c.Fields)}
}

func equation(e *api.Eq) api.Eq { return api.Eq{Left: Type(&e.Left), Right: Type(&e.Right)} }

func binder(b *api.Binder) api.Binder { return api.Binder{Name: b.Name, Kind: Type(&b.Kind)} }

func dep(d *api.Dep) api.Dep {
	return api.Dep{From: slices.Clone(d.From), To: slices.Clone(d.To)}
}

func sig(s *api.Sig) api.Sig { return api.Sig{Name: s.Name, Type: Type(&s.Type)} }

func alt(a *api.Alt) api.Alt {
	return api.Alt{Pats: pats(a.Pats), Rhs: Each(a.Rhs, guard), Where: Decls(a.Where)}
}

func guard(g *api.Guard) api.Guard {
	return api.Guard{If: Each(g.If, expr), Then: expr(&g.Then)}
}

func expr(e *api.Expr) api.Expr {
	return api.Expr{
		Op: e.Op, S: e.S, N: e.N, Args: Each(e.Args, expr), Types: Types(e.Types), Pats: pats(e.Pats),
		Fields: slices.Clone(e.Fields), Decls: Decls(e.Decls), Alts: Each(e.Alts, alt), Stmts: Each(e.Stmts, stmt),
	}
}

func stmt(s *api.Stmt) api.Stmt {
	return api.Stmt{Let: s.Let, Pat: pats(s.Pat), Expr: expr(&s.Expr), Decls: Decls(s.Decls)}
}

func pats(l []api.Pat) []api.Pat {
	return Each(l, func(p *api.Pat) api.Pat {
		return api.Pat{Op: p.Op, S: p.S, N: p.N, Args: pats(p.Args)}
	})
}
