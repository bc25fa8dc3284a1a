package sample

import "damask/api"

// Expr returns an expression with at most so many expressions around a number.
func (m Maker) Expr(depth int) api.Expr {
	if depth <= 0 {
		return api.Expr{Op: api.XInt, N: m.Choose(12)}
	}
	in := func() api.Expr { return m.Expr(depth - 1) }
	e := api.Expr{Op: api.XVar + m.Choose(api.XDo)}
	switch e.Op {
	case api.XVar:
		e.S = m.variable()
	case api.XCon:
		e.S = m.capital()
	case api.XInt:
		e.N = m.Choose(12)
	case api.XApp:
		e.Args = []api.Expr{in(), in()}
	case api.XAt, api.XAnn:
		e.Args, e.Types = []api.Expr{in()}, []api.Type{m.Type(2)}
	case api.XLam:
		e.Pats, e.Args = some(m, 1, func() api.Pat { return m.Pat(2) }), []api.Expr{in()}
	case api.XLet:
		e.Decls, e.Args = m.locals(depth-1), []api.Expr{in()}
	case api.XCase:
		e.Args = []api.Expr{in()}
		e.Alts = some(m, 0, func() api.Alt { return m.alt(depth-1, []api.Pat{m.Pat(2)}) })
	case api.XIf:
		e.Args = []api.Expr{in(), in(), in()}
	case api.XRec:
		e.S, e.Fields = m.capital(), some(m, 1, m.small)
	case api.XUpd:
		e.Fields, e.Args = some(m, 1, m.small), []api.Expr{in()}
	case api.XOps:
		e.Fields, e.Args = some(m, 1, m.op), []api.Expr{in()}
	case api.XDo:
		e.Stmts = some(m, 0, func() api.Stmt { return m.stmt(depth - 1) })
	}
	for range e.Fields {
		e.Args = append(e.Args, in())
	}
	return e
}

func (m Maker) stmt(depth int) api.Stmt {
	switch m.Choose(3) {
	case 0:
		return api.Stmt{Let: true, Decls: m.locals(depth)}
	case 1:
		return api.Stmt{Pat: []api.Pat{m.Pat(2)}, Expr: m.Expr(depth)}
	}
	return api.Stmt{Expr: m.Expr(depth)}
}

// Pat returns a pattern with at most so many patterns around one without any.
func (m Maker) Pat(depth int) api.Pat {
	in := func() api.Pat { return m.Pat(depth - 1) }
	switch n := m.Choose(8); {
	case depth <= 0 || n == 0:
		return api.Pat{Op: api.PVar, S: m.small()}
	case n == 1:
		return api.Pat{Op: api.PWild}
	case n == 2:
		return api.Pat{Op: api.PInt, N: m.Choose(3)}
	case n == 3:
		return api.Pat{Op: api.PAs, S: m.small(), Args: []api.Pat{in()}}
	case n == 4:
		return api.Pat{Op: api.PBang, Args: []api.Pat{in()}}
	case n == 5:
		return api.Pat{Op: api.PLazy, Args: []api.Pat{in()}}
	}
	return api.Pat{Op: api.PCon, S: m.capital(), Args: some(m, 0, in)}
}

// Type returns a type with at most so many foralls, functions and the like around a constant or a name.
func (m Maker) Type(depth int) api.Type {
	in := func() api.Type { return m.Type(depth - 1) }
	switch n := m.Choose(9); {
	case depth <= 0 || n < 2:
		return api.Type{Op: api.YCon, S: m.One("A", "Type", "'B", "->")}
	case n < 4:
		return api.Type{Op: api.YName, S: m.small()}
	case n == 4:
		return api.Type{Op: api.YAll, S: m.small(), Args: []api.Type{in(), in()}}
	case n == 5:
		return api.Type{Op: api.YImp, Args: []api.Type{in(), in()}}
	case n == 6:
		return both("~", in(), in())
	case n == 7:
		return function(in(), in())
	}
	return applied(in(), in())
}

func applied(f, a api.Type) api.Type { return api.Type{Op: api.YApp, Args: []api.Type{f, a}} }

// both applies a constant to two types.
func both(constant string, a, b api.Type) api.Type {
	return applied(applied(api.Type{Op: api.YCon, S: constant}, a), b)
}

func function(a, b api.Type) api.Type { return both("->", a, b) }
