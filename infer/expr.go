package infer

import (
	"slices"

	"damask/api"
	"damask/decl"
	"damask/leave"
)

// check lets an expression have a type. Expressions are pointed at, since copies of them would fill the stack where they are nested deeply.
func (g *gatherer) check(in around, e *api.Expr, t api.Type) {
	if isOpened(t) {
		defer g.back(g.present)
		t, _ = g.enter(t)
	}
	switch e.Op {
	case api.XLam:
		g.checkLambda(in, e, t)
	case api.XLet:
		g.check(g.locals(in, e.Decls), &e.Args[0], t)
	case api.XIf:
		g.check(in, &e.Args[0], named("Bool"))
		g.check(in, &e.Args[1], t)
		g.check(in, &e.Args[2], t)
	case api.XCase:
		of := []api.Type{g.infer(in, &e.Args[0])}
		for i := range e.Alts {
			g.alternative(in, &e.Alts[i], of, t)
		}
	default:
		found := g.infer(in, e)
		g.want(equation(found, t))
	}
}

// checkAs lets an expression have the type of an annotation, whose names are scoped in it.
func (g *gatherer) checkAs(in around, e *api.Expr, names []string, t api.Type) {
	defer g.back(g.present)
	t, rigids := g.enter(t)
	g.check(in.withScoped(names, rigids), e, t)
}

// checkLambda lets all behind a pattern be in the implication that this has begun.
func (g *gatherer) checkLambda(in around, e *api.Expr, t api.Type) {
	defer g.back(g.present)
	in = in.inside()
	for i := range e.Pats {
		t, _ = g.enter(t)
		a, b := g.split(t)
		g.pattern(in, &e.Pats[i], a)
		t = b
	}
	g.check(in, &e.Args[0], t)
}

// infer finds the type of an expression.
func (g *gatherer) infer(in around, e *api.Expr) api.Type {
	switch e.Op {
	case api.XVar, api.XCon, api.XAnn, api.XApp, api.XAt:
		return g.spine(in, e)
	case api.XInt:
		return named("Int")
	case api.XLam:
		return g.inferLambda(in, e)
	case api.XLet:
		return g.infer(g.locals(in, e.Decls), &e.Args[0])
	case api.XIf, api.XCase:
		t := g.newMeta(star())
		g.check(in, e, t)
		return t
	case api.XRec:
		return g.record(in, e)
	case api.XUpd:
		return g.update(in, e)
	case api.XOps, api.XDo:
		leave.With(api.ErrForm)
	}
	return leave.Must(api.Type{}, api.ErrArg)
}

func (g *gatherer) inferLambda(in around, e *api.Expr) api.Type {
	defer g.back(g.present)
	in = in.inside()
	var args []api.Type
	for i := range e.Pats {
		a := g.newMeta(star())
		g.pattern(in, &e.Pats[i], a)
		args = append(args, a)
	}
	return function(args, g.infer(in, &e.Args[0]))
}

// spine goes from what is applied through all arguments.
func (g *gatherer) spine(in around, e *api.Expr) api.Type {
	var applications []*api.Expr // the outermost one first
	for ; e.Op == api.XApp || e.Op == api.XAt; e = &e.Args[0] {
		applications = append(applications, e)
	}
	t := g.head(in, e)
	for _, x := range slices.Backward(applications) {
		if x.Op == api.XAt {
			t = g.at(in, t, &x.Types[0])
			continue
		}
		a, b := g.split(g.instantiate(t))
		g.check(in, &x.Args[1], a)
		t = b
	}
	return g.instantiate(t)
}

// head finds the type of what is applied, which is not instantiated yet.
func (g *gatherer) head(in around, e *api.Expr) api.Type {
	switch e.Op {
	case api.XVar:
		return g.variable(in, e.S)
	case api.XCon:
		return leave.Must(decl.ConType(*g.env, e.S))
	case api.XAnn:
		t := g.annotation(in, &e.Types[0], star())
		g.checkAs(in, &e.Args[0], binders(&e.Types[0]), t)
		return t
	}
	return g.infer(in, e)
}

func (g *gatherer) variable(in around, name string) api.Type {
	t, ok := in.variable(name)
	if !ok {
		t, ok = g.globals[name]
	}
	if !ok {
		leave.With(api.ErrName)
	}
	return t
}

// at returns what a type becomes when it is applied to one that is written.
func (g *gatherer) at(in around, t api.Type, written *api.Type) api.Type {
	for ; t.Op == api.YImp; t = t.Args[1] {
		g.want(t.Args[0])
	}
	if t.Op != api.YAll {
		leave.With(api.ErrType)
	}
	return put(t.Args[1], g.annotation(in, written, t.Args[0]))
}
