package scope

import (
	"damask/api"
	"damask/leave"
)

// operator is one of an XOps: the name that it has in the result, and how it binds.
type operator struct {
	name string
	strength
}

// strengthened resolves all XOps of an expression, and leaves all else as it is.
func strengthened(operators []string, fixes []api.Decl, e *api.Expr) api.Expr {
	known := strengths(fixes)
	top := &frame{variables: map[string]strength{}}
	for _, name := range operators {
		top.variables[name] = strengthOf(known, name)
	}
	w := &walker{pats: asIs}
	w.decls = w.likeBefore
	w.expr = func(f *frame, e *api.Expr) api.Expr {
		made := w.parts(f, e)
		if e.Op != api.XOps {
			return made
		}
		return operated(each(e.Fields, func(name *string) operator {
			s, ok := f.find(*name)
			if !ok {
				leave.With(api.ErrName)
			}
			return operator{*name, s}
		}), made.Args)
	}
	return w.expr(top, e)
}

// operated applies operators to the operands that they stand between. Those that wait for their right operand bind ever more strongly.
func operated(operators []operator, operands []api.Expr) api.Expr {
	values := []api.Expr{operands[0]}
	var waiting []operator
	bindLast := func() {
		right := len(values) - 1
		e := applied(variable(waiting[right-1].name), values[right-1], values[right])
		values = append(values[:right-1], e)
		waiting = waiting[:right-1]
	}
	for i, o := range operators {
		for len(waiting) > 0 && bindsFirst(waiting[len(waiting)-1].strength, o.strength) {
			bindLast()
		}
		waiting = append(waiting, o)
		values = append(values, operands[i+1])
	}
	for len(waiting) > 0 {
		bindLast()
	}
	return values[0]
}

// bindsFirst reports whether of two operators that follow each other the left one binds first.
func bindsFirst(left, right strength) bool {
	switch {
	case left.n != right.n:
		return left.n > right.n
	case left.side != right.side || left.side == "infix":
		leave.With(api.ErrForm)
	}
	return left.side == "infixl"
}
