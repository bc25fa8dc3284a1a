package infer

import (
	"slices"
	"strconv"
	"testing"

	"damask/api"
	"damask/types"
)

func xvar(s string) api.Expr { return api.Expr{Op: api.XVar, S: s} }
func xcon(s string) api.Expr { return api.Expr{Op: api.XCon, S: s} }
func number() api.Expr       { return api.Expr{Op: api.XInt, N: 1} }
func xapp(f api.Expr, l ...api.Expr) api.Expr {
	for _, a := range l {
		f = api.Expr{Op: api.XApp, Args: []api.Expr{f, a}}
	}
	return f
}
func ann(e api.Expr, t api.Type) api.Expr {
	return api.Expr{Op: api.XAnn, Args: []api.Expr{e}, Types: []api.Type{t}}
}
func value(e api.Expr) []api.Guard { return []api.Guard{{Then: e}} }
func wild() []api.Pat              { return []api.Pat{{Op: api.PWild}} }
func nothing() api.Expr            { return api.Expr{Op: api.XCase, Args: []api.Expr{number()}} }

// cases is a case of something with alternatives that have a value each.
func cases(of api.Expr, pats []api.Pat, l ...api.Expr) api.Expr {
	e := api.Expr{Op: api.XCase, Args: []api.Expr{of}}
	for _, x := range l {
		e.Alts = append(e.Alts, api.Alt{Pats: pats, Rhs: value(x)})
	}
	return e
}

// foralls binds so many variables around a type.
func foralls(n int, t api.Type) api.Type {
	for range n {
		t = api.Type{Op: api.YAll, Args: []api.Type{star(), t}}
	}
	return t
}

// TestLimits: so many metavariables, rigid variables, implications and wants there can be, and no more.
func TestLimits(t *testing.T) {
	p, env := built(t, world)
	only := []api.Pat{{Op: api.PCon, S: "M.Only"}}
	general := func(definitions, more int) api.Expr { // with four foralls each, and with more in a further one
		e := api.Expr{Op: api.XLet, Args: []api.Expr{number()}}
		for i := range definitions + 1 {
			name, vars := strconv.Itoa(i), 4
			if i == definitions {
				vars = more
			}
			e.Decls = append(e.Decls, api.Decl{Op: api.DSig, Name: name, Type: foralls(vars, named("Int"))}, api.Decl{Op: api.DBind, Name: name, Alts: []api.Alt{{Rhs: value(number())}}})
		}
		return e
	}
	repeat := func(e api.Expr, n int) []api.Expr { return slices.Repeat([]api.Expr{e}, n) }
	nil2 := xapp(xcon("M.Cons"), number(), xcon("M.Nil"))
	for i, row := range []struct {
		e    api.Expr
		t    string
		want api.Errno
	}{
		{cases(number(), wild(), repeat(xcon("M.Nil"), 399)...), "forall a. List a", api.OK}, {cases(number(), wild(), repeat(xcon("M.Nil"), 400)...), "", api.ErrFull},
		{cases(number(), wild(), repeat(number(), 400)...), "Int", api.OK}, {cases(number(), wild(), repeat(number(), 401)...), "", api.ErrFull},
		{general(99, 4), "Int", api.OK}, {general(99, 5), "", api.ErrFull}, {general(100, 1), "", api.ErrFull}, {general(100, 0), "Int", api.OK},
		{cases(xcon("M.Only"), only, repeat(nothing(), 400)...), "forall a. a", api.OK}, {cases(xcon("M.Only"), only, repeat(nothing(), 401)...), "", api.ErrFull},
		{cases(number(), wild(), append(repeat(number(), 401), xvar("unknown"))...), "", api.ErrFull}, {cases(number(), wild(), append(repeat(number(), 400), xvar("unknown"))...), "", api.ErrName},
		{cases(number(), wild(), append(repeat(nil2, 133), number(), number())...), "", api.ErrFull}, {cases(number(), wild(), append(repeat(nil2, 133), number())...), "", api.ErrType},
	} {
		found, e := Expr(p, env, nil, row.e)
		if e != row.want || e == api.OK && show(found) != row.t || e != api.OK && found.Op != 0 {
			t.Error(i, show(found), e)
		}
	}
}

// wide is a type with so many nodes, at most 600.
func wide(nodes int) api.Type {
	if nodes < 3 {
		return named("Int")
	}
	left := (nodes - 1) / 2
	left -= 1 - left%2
	return api.Type{Op: api.YApp, Args: []api.Type{wide(left), wide(nodes - 1 - left)}}
}

// TestLargeTypes: types that are not proper are no types.
func TestLargeTypes(t *testing.T) {
	p, env := built(t, world)
	pair := func(a, b api.Type) api.Type {
		return api.Type{Op: api.YApp, Args: []api.Type{{Op: api.YApp, Args: []api.Type{named("M.Pair"), a}}, b}}
	}
	tree := func(depth int) api.Type {
		t := named("Int")
		for range depth {
			t = pair(t, t)
		}
		return t // with 4 * 2^depth - 3 nodes
	}
	right := func(n int) api.Type {
		t := named("Int")
		for range n {
			t = api.Type{Op: api.YApp, Args: []api.Type{named("M.List"), t}}
		}
		return t
	}
	lam := func(e api.Expr) api.Expr {
		return api.Expr{Op: api.XLam, Pats: []api.Pat{{Op: api.PVar, S: "x"}}, Args: []api.Expr{e}}
	}
	double := api.Expr{Op: api.XLam, Pats: []api.Pat{{Op: api.PVar, S: "x"}}, Args: []api.Expr{xapp(xcon("M.Pair"), xvar("x"), xvar("x"))}}
	doubled := func(n int) api.Expr {
		e := number()
		for range n {
			e = xapp(double, e)
		}
		return e
	}
	of := func(e api.Expr) api.Expr { return cases(e, nil) }
	twice := func(t api.Type) api.Expr { return ann(ann(nothing(), t), t) }
	for i, row := range []struct {
		e    api.Expr
		want api.Errno
	}{
		{of(ann(nothing(), right(39))), api.OK}, {of(ann(nothing(), right(40))), api.ErrFull}, // 40 and 41 deep
		{ann(nothing(), right(37)), api.OK}, {ann(nothing(), right(38)), api.ErrFull}, // two deeper in an equation
		{of(ann(nothing(), tree(7))), api.OK}, {of(ann(nothing(), pair(tree(7), tree(4)))), api.OK}, {of(ann(nothing(), pair(tree(7), tree(5)))), api.ErrFull}, // 509, 573 and 637 nodes
		{twice(tree(6)), api.OK}, {twice(pair(tree(6), tree(4))), api.ErrFull}, // 509 and 637 in the equation
		{of(ann(number(), wide(599))), api.ErrKind}, {of(ann(number(), wide(601))), api.ErrFull},
		{doubled(6), api.OK}, {doubled(8), api.ErrFull}, // found by solving
		{of(ann(lam(nothing()), right(38))), api.ErrFull}, {of(ann(lam(nothing()), right(36))), api.ErrType}, // the equation with a function, on the way
	} {
		if found, e := Expr(p, env, nil, row.e); e != row.want || e == api.OK && found.Op == 0 {
			t.Error(i, show(found), e)
		}
	}
	if size, _ := types.Size(wide(599)); size != 599 {
		t.Error(size)
	}
}

// TestLargeGeneralTypes: with the foralls for what is open a type can be too deep.
func TestLargeGeneralTypes(t *testing.T) {
	p, env := built(t, world)
	count := map[api.Errno]int{}
	e := resolved(t, "\\x y z -> x") // its type is 5 deep, and there are three foralls
	for n := range 40 {
		found, wrong := Expr(p, env, nil, e)
		if wrong == api.OK && types.Check(found) != api.OK {
			t.Error(n, "is not proper")
		}
		count[wrong]++
		e = xapp(xcon("M.Cons"), e, xcon("M.Nil"))
	}
	if count[api.OK] != 33 || count[api.ErrFull] != 7 {
		t.Error(count)
	}
}
