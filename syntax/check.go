package syntax

import (
	"damask/api"
	"damask/lexis"
)

// checker goes through all parts of something; its methods report whether these are well built, and it notes whether they are small. It goes on where something is not small, for to be badly built counts more.
type checker struct {
	nodes int
	full  bool
}

func (c *checker) verdict(wellBuilt bool) api.Errno {
	switch {
	case !wellBuilt:
		return api.ErrArg
	case c.full:
		return api.ErrFull
	}
	return api.OK
}

// node counts a type, a pattern or an expression.
func (c *checker) node(depth int) {
	c.nodes++
	if depth > api.MaxDepth || c.nodes > api.MaxNodes {
		c.full = true
	}
}

// all points at the items of a list, since copies of them would fill the stack where they are nested deeply.
func all[T any](l []T, holds func(*T) bool) bool {
	for i := range l {
		if !holds(&l[i]) {
			return false
		}
	}
	return true
}

func allNames(l []string, isOne func(string) bool) bool {
	return all(l, func(s *string) bool { return isOne(*s) })
}

func isVariable(s string) bool { return lexis.IsSmall(s) || lexis.IsOp(s) }

func isName(s string) bool { return isVariable(s) || lexis.IsCapital(s) }

func (c *checker) module(m *api.Module) bool {
	if len(m.Decls) > api.MaxDecls {
		c.full = true
	}
	decl := func(d *api.Decl) bool {
		c.nodes = 0 // each declaration of a module has so many of its own
		return c.decl(d, 1)
	}
	return lexis.IsCapital(m.Name) && wellNamed(m.All, m.Exports) && all(m.Imports, isImport) && undivided(m.Decls) && all(m.Decls, decl)
}

func isImport(i *api.Import) bool { return lexis.IsCapital(i.Module) && wellNamed(i.All, i.Names) }

func wellNamed(whole bool, names []string) bool {
	return allNames(names, isName) && !(whole && len(names) > 0)
}

// undivided reports whether clauses that follow each other and have one name are together.
func undivided(l []api.Decl) bool {
	for i := 1; i < len(l); i++ {
		if sameClauses(&l[i-1], &l[i]) {
			return false
		}
	}
	return true
}

func (c *checker) decl(d *api.Decl, depth int) bool {
	if !declForm(d) {
		return false
	}
	switch d.Op {
	case api.DFix:
		return true
	case api.DBind:
		return all(d.Alts, func(a *api.Alt) bool { return c.alt(a, depth) })
	case api.DClass:
		return c.class(d, depth)
	}
	con := func(x *api.Con) bool { return c.con(x, depth) }
	eq := func(x *api.Eq) bool { return c.typ(&x.Left, depth) && c.typ(&x.Right, depth) }
	return c.typ(&d.Type, depth) && all(d.Cons, con) && all(d.Eqs, eq) && c.methods(d.Decls, depth)
}

// declForm reports whether the names of a declaration have their form, and the fields without a meaning are zero.
func declForm(d *api.Decl) bool {
	rest := *d
	rest.Op, rest.Name = 0, ""
	formed := false
	switch d.Op {
	case api.DData, api.DNew:
		formed = lexis.IsCapital(d.Name) && allNames(d.Deriving, lexis.IsCapital)
		rest.Type, rest.Cons, rest.Deriving = api.Type{}, nil, nil
	case api.DFamily:
		formed = lexis.IsCapital(d.Name)
		rest.Type, rest.Eqs = api.Type{}, nil
	case api.DClass:
		formed = lexis.IsCapital(d.Name)
		rest.Vars, rest.Context, rest.Deps, rest.Sigs = nil, nil, nil, nil
	case api.DInst:
		formed = d.Name == ""
		rest.Type, rest.Decls = api.Type{}, nil
	case api.DSig:
		formed = isVariable(d.Name)
		rest.Type = api.Type{}
	case api.DBind:
		formed = isVariable(d.Name) && len(d.Alts) > 0
		rest.Alts = nil
	case api.DFix:
		formed = lexis.IsOp(d.Name) && isSide(d.S) && d.N >= 0 && d.N <= 9
		rest.S, rest.N = "", 0
	}
	return formed && sameDecl(&rest, &api.Decl{})
}

func isSide(s string) bool { return s == "infixl" || s == "infixr" || s == "infix" }

func (c *checker) con(x *api.Con, depth int) bool {
	return lexis.IsCapital(x.Name) && c.typ(&x.Type, depth) && allNames(x.Fields, lexis.IsSmall) && hasFields(&x.Type, len(x.Fields))
}

// hasFields reports whether a well built type has foralls, and then at least n functions.
func hasFields(t *api.Type, n int) bool {
	for t.Op == api.YAll {
		t = &t.Args[1]
	}
	for ; n > 0; n-- {
		if !isFunction(t) {
			return false
		}
		t = &t.Args[1]
	}
	return true
}

func isFunction(t *api.Type) bool {
	if t.Op != api.YApp || t.Args[0].Op != api.YApp {
		return false
	}
	head := &t.Args[0].Args[0]
	return head.Op == api.YCon && head.S == "->"
}

func (c *checker) class(d *api.Decl, depth int) bool {
	variable := func(b *api.Binder) bool { return lexis.IsSmall(b.Name) && c.typ(&b.Kind, depth) }
	context := func(t *api.Type) bool { return c.typ(t, depth) }
	sig := func(s *api.Sig) bool { return isVariable(s.Name) && c.typ(&s.Type, depth) }
	return all(d.Context, context) && all(d.Vars, variable) && all(d.Deps, isDep) && all(d.Sigs, sig)
}

func isDep(d *api.Dep) bool {
	return len(d.From) > 0 && len(d.To) > 0 && allNames(d.From, lexis.IsSmall) && allNames(d.To, lexis.IsSmall)
}

func (c *checker) methods(l []api.Decl, depth int) bool {
	method := func(d *api.Decl) bool { return d.Op == api.DBind && c.decl(d, depth) }
	return undivided(l) && all(l, method)
}

func (c *checker) locals(l []api.Decl, depth int) bool {
	local := func(d *api.Decl) bool {
		return (d.Op == api.DSig || d.Op == api.DBind || d.Op == api.DFix) && c.decl(d, depth)
	}
	return undivided(l) && all(l, local)
}

func (c *checker) alt(a *api.Alt, depth int) bool {
	pat := func(p *api.Pat) bool { return c.pat(p, depth) }
	cond := func(e *api.Expr) bool { return c.expr(e, depth) }
	guard := func(g *api.Guard) bool { return all(g.If, cond) && c.expr(&g.Then, depth) }
	return isRhs(a.Rhs) && all(a.Pats, pat) && all(a.Rhs, guard) && c.locals(a.Where, depth+1)
}

// isRhs reports whether there is one value without a condition, or all values have one.
func isRhs(l []api.Guard) bool {
	if len(l) == 1 && len(l[0].If) == 0 {
		return true
	}
	return len(l) > 0 && all(l, func(g *api.Guard) bool { return len(g.If) == 1 })
}

func (c *checker) expr(e *api.Expr, depth int) bool {
	c.node(depth)
	if !exprForm(e) {
		return false
	}
	in := depth + 1
	arg := func(x *api.Expr) bool { return c.expr(x, in) }
	typ := func(t *api.Type) bool { return c.typ(t, in) }
	pat := func(p *api.Pat) bool { return c.pat(p, in) }
	alt := func(a *api.Alt) bool { return len(a.Pats) == 1 && c.alt(a, in) }
	stmt := func(s *api.Stmt) bool { return c.stmt(s, in) }
	return all(e.Args, arg) && all(e.Types, typ) && all(e.Pats, pat) && c.locals(e.Decls, in) && all(e.Alts, alt) && all(e.Stmts, stmt)
}

// exprForm reports whether an expression has as many parts as its Op wants, names with their form, and nothing else.
func exprForm(e *api.Expr) bool {
	args, types := 0, 0
	formed := true
	rest := *e
	rest.Op, rest.Args, rest.Types = 0, nil, nil
	switch e.Op {
	case api.XVar:
		formed, rest.S = isVariable(e.S), ""
	case api.XCon:
		formed, rest.S = lexis.IsCapital(e.S), ""
	case api.XInt:
		formed, rest.N = e.N >= 0, 0
	case api.XApp:
		args = 2
	case api.XAt, api.XAnn:
		args, types = 1, 1
	case api.XLam:
		args, formed, rest.Pats = 1, len(e.Pats) > 0, nil
	case api.XLet:
		args, rest.Decls = 1, nil
	case api.XCase:
		args, rest.Alts = 1, nil
	case api.XIf:
		args = 3
	case api.XRec:
		args, formed = len(e.Fields), lexis.IsCapital(e.S) && isRecord(e)
		rest.S, rest.Fields = "", nil
	case api.XUpd:
		args, formed, rest.Fields = len(e.Fields)+1, isRecord(e), nil
	case api.XOps:
		args, formed, rest.Fields = len(e.Fields)+1, len(e.Fields) > 0 && allNames(e.Fields, lexis.IsOp), nil
	case api.XDo:
		rest.Stmts = nil
	default:
		formed = false
	}
	return formed && len(e.Args) == args && len(e.Types) == types && sameExpr(&rest, &api.Expr{})
}

func isRecord(e *api.Expr) bool { return len(e.Fields) > 0 && allNames(e.Fields, lexis.IsSmall) }

func (c *checker) stmt(s *api.Stmt, depth int) bool {
	if s.Let {
		return len(s.Pat) == 0 && sameExpr(&s.Expr, &api.Expr{}) && c.locals(s.Decls, depth)
	}
	pat := func(p *api.Pat) bool { return c.pat(p, depth) }
	return len(s.Decls) == 0 && len(s.Pat) <= 1 && all(s.Pat, pat) && c.expr(&s.Expr, depth)
}

func (c *checker) pat(p *api.Pat, depth int) bool {
	c.node(depth)
	return patForm(p) && all(p.Args, func(q *api.Pat) bool { return c.pat(q, depth+1) })
}

func patForm(p *api.Pat) bool {
	args, named := len(p.Args), p.S != ""
	if p.Op != api.PInt && p.N != 0 {
		return false
	}
	switch p.Op {
	case api.PWild:
		return !named && args == 0
	case api.PVar:
		return lexis.IsSmall(p.S) && args == 0
	case api.PCon:
		return lexis.IsCapital(p.S)
	case api.PInt:
		return !named && args == 0 && p.N >= 0
	case api.PAs:
		return lexis.IsSmall(p.S) && args == 1
	case api.PBang, api.PLazy:
		return !named && args == 1
	}
	return false
}

func (c *checker) typ(t *api.Type, depth int) bool { return c.head(t, depth, 0) }

// head checks a type that is applied to some arguments.
func (c *checker) head(t *api.Type, depth, applied int) bool {
	c.node(depth)
	if t.N != 0 {
		return false
	}
	args, in := len(t.Args), depth+1
	switch t.Op {
	case api.YCon:
		return args == 0 && isConstant(t.S, applied)
	case api.YName:
		return args == 0 && lexis.IsSmall(t.S)
	case api.YApp:
		return args == 2 && t.S == "" && c.head(&t.Args[0], in, applied+1) && c.typ(&t.Args[1], in)
	case api.YAll:
		return args == 2 && lexis.IsSmall(t.S) && c.typ(&t.Args[0], in) && c.typ(&t.Args[1], in)
	case api.YImp:
		return args == 2 && t.S == "" && c.typ(&t.Args[0], in) && c.typ(&t.Args[1], in)
	}
	return false
}

func isConstant(s string, applied int) bool {
	switch {
	case s == "->":
		return true
	case s == "~":
		return applied >= 2
	case s != "" && s[0] == '\'':
		return lexis.IsCapital(s[1:])
	}
	return lexis.IsCapital(s)
}
