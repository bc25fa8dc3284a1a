package decl

import (
	"slices"
	"strconv"

	"damask/api"
	"damask/leave"
	"damask/types"
)

// derive makes the instances that the declaration of a data type asks for, and enters them like declared ones.
func (b *builder) derive(d *api.Decl) {
	for _, name := range d.Deriving {
		made := b.derivedFor(b.data(), findClass(&b.env, name))
		b.derived = append(b.derived, made)
		b.instance(&made)
	}
}

func (b *builder) derivedFor(data *api.DataType, class *api.Class) api.Decl {
	var cons []api.DataCon
	for _, name := range data.Cons {
		cons = append(cons, *findCon(&b.env, name))
	}
	if class == nil || slices.ContainsFunc(cons, func(c api.DataCon) bool { return !IsPlain(c) }) {
		leave.With(api.ErrForm)
	}
	var method api.Decl
	switch equality := b.equalityOf(class); {
	case isOfEquality(class):
		method = equalMethod(class.Sigs[0].Name, cons)
	case equality != nil:
		method = orderMethod(class.Sigs[0].Name, equality.Sigs[0].Name, cons)
	default:
		leave.With(api.ErrForm)
	}
	return api.Decl{Op: api.DInst, Type: derivedType(data, class), Decls: []api.Decl{method}}
}

// derivedType has names for nothing that it binds, like the foralls that layer 4 adds.
func derivedType(data *api.DataType, class *api.Class) api.Type {
	univ := parameters(data.Kind)
	vars := variables(len(univ), len(univ))
	var context []api.Type
	for i, k := range univ {
		if isConstant(k, "Type") {
			context = append(context, applied(named(class.Name), vars[i]))
		}
	}
	return foralls(univ, implications(context, applied(named(class.Name), applied(named(data.Name), vars...))))
}

// isComparison reports whether a class has one variable, and one method that compares two values of it.
func isComparison(c *api.Class) bool {
	return len(c.Vars) == 1 && isConstant(c.Vars[0], "Type") && len(c.Deps) == 0 && len(c.Sigs) == 1 &&
		types.Same(c.Sigs[0].Type, function(variable(0), variable(0), named("Bool")))
}

func isOfEquality(c *api.Class) bool { return isComparison(c) && len(c.Supers) == 0 }

// equalityOf returns the superclass of a class of order, and nil of other ones.
func (b *builder) equalityOf(c *api.Class) *api.Class {
	if !isComparison(c) || len(c.Supers) != 1 {
		return nil
	}
	super, args := classOf(&b.env, c.Supers[0])
	if !isOfEquality(super) || !types.Same(args[0], variable(0)) {
		return nil
	}
	return super
}

func equalMethod(method string, cons []api.DataCon) api.Decl {
	var l []api.Alt
	for _, c := range cons {
		then := constructor("True")
		for i := len(c.Args); i > 0; i-- {
			then = choice(call(method, numbered("x", i), numbered("y", i)), then, constructor("False"))
		}
		l = append(l, clause(then, matchOf(c, "x"), matchOf(c, "y")))
	}
	return defined(method, cons, l...)
}

func orderMethod(method, equal string, cons []api.DataCon) api.Decl {
	var l []api.Alt
	for _, c := range cons {
		then := constructor("True")
		for i := len(c.Args); i > 0; i-- {
			x, y := numbered("x", i), numbered("y", i)
			then = choice(call(equal, x, y), then, call(method, x, y))
		}
		l = append(l, clause(then, matchOf(c, "x"), matchOf(c, "y")))
	}
	for i, c := range cons {
		for _, later := range cons[i+1:] {
			l = append(l, clause(constructor("True"), matchOf(c, ""), matchOf(later, "")))
		}
	}
	return defined(method, cons, l...)
}

// defined adds the last clause, if one is needed.
func defined(method string, cons []api.DataCon, clauses ...api.Alt) api.Decl {
	wild := api.Pat{Op: api.PWild}
	switch len(cons) {
	case 0:
		then := call("seq", api.Expr{Op: api.XVar, S: "x"}, constructor("True"))
		clauses = append(clauses, clause(then, api.Pat{Op: api.PVar, S: "x"}, wild))
	case 1:
	default:
		clauses = append(clauses, clause(constructor("False"), wild, wild))
	}
	return api.Decl{Op: api.DBind, Name: method, Alts: clauses}
}

func clause(then api.Expr, pats ...api.Pat) api.Alt {
	return api.Alt{Pats: pats, Rhs: []api.Guard{{Then: then}}}
}

// matchOf matches a constructor with variables that begin with a name, or whatever its arguments are.
func matchOf(c api.DataCon, name string) api.Pat {
	p := api.Pat{Op: api.PCon, S: c.Name}
	for i := range c.Args {
		if name == "" {
			p.Args = append(p.Args, api.Pat{Op: api.PWild})
		} else {
			p.Args = append(p.Args, api.Pat{Op: api.PVar, S: numbered(name, i+1).S})
		}
	}
	return p
}

func constructor(name string) api.Expr { return api.Expr{Op: api.XCon, S: name} }

func numbered(name string, n int) api.Expr {
	return api.Expr{Op: api.XVar, S: name + strconv.Itoa(n)}
}

func call(name string, args ...api.Expr) api.Expr {
	e := api.Expr{Op: api.XVar, S: name}
	for _, a := range args {
		e = api.Expr{Op: api.XApp, Args: []api.Expr{e, a}}
	}
	return e
}

func choice(condition, then, otherwise api.Expr) api.Expr {
	return api.Expr{Op: api.XIf, Args: []api.Expr{condition, then, otherwise}}
}
