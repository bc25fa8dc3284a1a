package core

import (
	"damask/api"
	"damask/decl"
	"damask/types"
)

// termMethods are the methods that tell the types of terms, by their operators.
func termMethods() map[int]func(c context, t *api.Core) api.Type {
	return map[int]func(c context, t *api.Core) api.Type{
		api.CVar: context.variable, api.CGlob: context.global, api.CInt: context.number, api.CCon: context.constructor,
		api.CLam: context.lambda, api.CApp: context.application, api.CTLam: context.typeLambda, api.CTApp: context.typeApplication,
		api.CQLam: context.coercionLambda, api.CQApp: context.coercionApplication, api.CLet: context.let, api.CCase: context.cases,
		api.CCast: context.cast, api.CNew: context.made, api.COld: context.unmade,
	}
}

// term returns the type of a term. It shares memory with what is around it.
func (c context) term(t *api.Core) api.Type { return c.terms[t.Op](c, t) }

// mustHave leaves if a term has another type.
func (c context) mustHave(t *api.Core, wanted api.Type) { must(types.Same(c.term(t), wanted)) }

func (c context) variable(t *api.Core) api.Type {
	must(t.N < len(c.vars))
	v := c.vars[len(c.vars)-1-t.N]
	return c.since(v.t, v.kinds)
}

func (c context) global(t *api.Core) api.Type {
	found := c.globals[t.S]
	must(found != nil)
	return *found
}

func (c context) number(*api.Core) api.Type { return named("Int") }

// constructor also knows those of classes, whose values are the dictionaries of instances.
func (c context) constructor(t *api.Core) api.Type {
	if con := c.index.Cons[t.S]; con != nil {
		data := c.index.Data[con.Data]
		must(data != nil && !data.New)
		made, e := decl.ConType(*c.env, t.S)
		mustBeCore(e == api.OK, e)
		return made
	}
	class := c.classOf(t.S)
	must(class != nil)
	return full(dictionary(class))
}

func (c context) lambda(t *api.Core) api.Type {
	of := t.Types[0]
	arises := implication
	if c.isOfType(of) {
		arises = function
	}
	return arises(of, c.withVar(of).term(&t.Args[0]))
}

func (c context) application(t *api.Core) api.Type {
	f := c.term(&t.Args[0])
	wanted, result, ok := partsOf(f, "->")
	if f.Op == api.YImp {
		wanted, result, ok = f.Args[0], f.Args[1], c.isClassConstraint(f.Args[0])
	}
	must(ok)
	c.mustHave(&t.Args[1], wanted)
	return result
}

func (c context) typeLambda(t *api.Core) api.Type {
	in := c.withKind(t.Types[0])
	return forall(t.Types[0], in.term(&t.Args[0]))
}

func (c context) typeApplication(t *api.Core) api.Type {
	f := c.term(&t.Args[0])
	must(f.Op == api.YAll)
	c.mustBe(t.Types[0], f.Args[0])
	return put(f.Args[1], t.Types)
}

func (c context) coercionLambda(t *api.Core) api.Type {
	in := c.withPair(api.Eq{Left: t.Types[0], Right: t.Types[1]})
	return implication(equation(t.Types[0], t.Types[1]), in.term(&t.Args[0]))
}

func (c context) coercionApplication(t *api.Core) api.Type {
	f := c.term(&t.Args[0])
	must(f.Op == api.YImp)
	a, b, ok := partsOf(f.Args[0], "~")
	must(ok)
	from, to := c.coercion(&t.Co[0])
	must(types.Same(from, a) && types.Same(to, b))
	return f.Args[1]
}

func (c context) let(t *api.Core) api.Type {
	in := c
	for _, of := range t.Types {
		in = in.withChecked(of)
	}
	for i, of := range t.Types {
		in.mustHave(&t.Args[i], of)
	}
	return in.term(&t.Args[len(t.Types)])
}

func (c context) cast(t *api.Core) api.Type {
	found := c.term(&t.Args[0])
	from, to := c.coercion(&t.Co[0])
	must(types.Same(found, from))
	return to
}

func (c context) made(t *api.Core) api.Type {
	outside, inside := c.newType(t)
	c.mustHave(&t.Args[0], inside)
	return outside
}

func (c context) unmade(t *api.Core) api.Type {
	outside, inside := c.newType(t)
	c.mustHave(&t.Args[0], outside)
	return inside
}

// newType returns a new type of types, and the type of its field.
func (c context) newType(t *api.Core) (outside, inside api.Type) {
	data := c.index.Data[t.S]
	must(data != nil && data.New && len(data.Cons) == 1)
	con := c.index.Cons[data.Cons[0]]
	must(con != nil && len(con.Args) == 1 && len(con.Univ) == len(t.Types))
	for i, k := range con.Univ {
		c.mustBe(t.Types[i], put(k, t.Types[:i]))
	}
	return applied(named(t.S), t.Types...), put(con.Args[0], t.Types)
}
