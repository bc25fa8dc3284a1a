package scope

import (
	"damask/api"
	"damask/free"
	"damask/leave"
)

// expression resolves an expression in its frame.
func (r *resolver) expression(f *frame, e *api.Expr) api.Expr {
	switch e.Op {
	case api.XVar:
		return variable(r.variable(f, e.S).name)
	case api.XAt:
		return api.Expr{Op: e.Op, Args: []api.Expr{r.expression(f, &e.Args[0])}, Types: []api.Type{r.closed(f, &e.Types[0])}}
	case api.XAnn:
		t := r.generalized(f, &e.Types[0])
		in := f.withTypes(explicit(&e.Types[0]))
		return api.Expr{Op: e.Op, Args: []api.Expr{r.expression(in, &e.Args[0])}, Types: []api.Type{t}}
	case api.XDo:
		return r.do(f, e.Stmts)
	}
	made := r.parts(f, e)
	switch e.Op {
	case api.XCon:
		made.S = r.value(e.S)
	case api.XRec:
		made.S, made.Fields = r.value(e.S), r.allValues(e.Fields)
	case api.XUpd:
		made.Fields = r.allValues(e.Fields)
	case api.XOps:
		return operated(each(e.Fields, func(name *string) operator { return r.variable(f, *name) }), made.Args)
	}
	return made
}

// variable returns what a variable is called, and how it binds as an operator.
func (r *resolver) variable(f *frame, name string) operator {
	if s, local := f.find(name); local {
		return operator{name, s}
	}
	full := r.value(name)
	return operator{full, strengthOf(r.strengths, full)}
}

func (r *resolver) do(f *frame, l []api.Stmt) api.Expr {
	if len(l) == 0 {
		leave.With(api.ErrForm)
	}
	if last := l[len(l)-1]; last.Let || len(last.Pat) > 0 {
		leave.With(api.ErrForm)
	}
	e := undone(l)
	return r.expression(f, &e)
}

// patterns resolves a list of patterns, in which no variable may be bound twice.
func (r *resolver) patterns(l []api.Pat) []api.Pat {
	seen := map[string]bool{}
	for _, name := range free.Bound(l) {
		if seen[name] {
			leave.With(api.ErrTwice)
		}
		seen[name] = true
	}
	return r.patternsAnew(l)
}

func (r *resolver) patternsAnew(l []api.Pat) []api.Pat {
	return each(l, func(p *api.Pat) api.Pat {
		made := api.Pat{Op: p.Op, S: p.S, N: p.N, Args: r.patternsAnew(p.Args)}
		if p.Op == api.PCon {
			made.S = r.value(p.S)
		}
		return made
	})
}
