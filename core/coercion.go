package core

import (
	"damask/api"
	"damask/family"
	"damask/types"
)

// coercionMethods are the methods that tell the types of coercions, by their operators.
func coercionMethods() map[int]func(c context, o *api.Co) (a, b api.Type) {
	return map[int]func(c context, o *api.Co) (a, b api.Type){
		api.ORefl: context.reflexive, api.OSym: context.turned, api.OTrans: context.joined, api.OApp: context.applications,
		api.OAll: context.foralls, api.OImp: context.implications, api.OVar: context.coercionVariable, api.OAxiom: context.axiom,
		api.OLeft: context.functions, api.ORight: context.arguments, api.OFam: context.familyTypes,
	}
}

// coercion returns both types of a coercion. They share memory with what is around it.
func (c context) coercion(o *api.Co) (a, b api.Type) { return c.coercions[o.Op](c, o) }

func (c context) reflexive(o *api.Co) (a, b api.Type) {
	c.kind(o.Types[0])
	return o.Types[0], o.Types[0]
}

func (c context) turned(o *api.Co) (a, b api.Type) {
	b, a = c.coercion(&o.Args[0])
	return a, b
}

func (c context) joined(o *api.Co) (a, b api.Type) {
	walk := c.coercion
	a, between := walk(&o.Args[0])
	from, b := walk(&o.Args[1])
	must(types.Same(between, from))
	c.mustHaveOneKind(a, b)
	return a, b
}

func (c context) applications(o *api.Co) (a, b api.Type) {
	walk := c.coercion
	f, g := walk(&o.Args[0])
	a, b = walk(&o.Args[1])
	a, b = applied(f, a), applied(g, b)
	c.mustHaveOneKind(a, b)
	return a, b
}

func (c context) foralls(o *api.Co) (a, b api.Type) {
	k := o.Types[0]
	a, b = c.withKind(k).coercion(&o.Args[0])
	a, b = forall(k, a), forall(k, b)
	c.mustHaveOneKind(a, b)
	return a, b
}

func (c context) implications(o *api.Co) (a, b api.Type) {
	walk := c.coercion
	from, to := walk(&o.Args[0])
	a, b = walk(&o.Args[1])
	a, b = implication(from, a), implication(to, b)
	c.mustHaveOneKind(a, b)
	return a, b
}

func (c context) coercionVariable(o *api.Co) (a, b api.Type) {
	must(o.N < len(c.cos))
	p := c.cos[len(c.cos)-1-o.N]
	return c.since(p.sides.Left, p.kinds), c.since(p.sides.Right, p.kinds)
}

func (c context) axiom(o *api.Co) (a, b api.Type) {
	b, n, e := family.Step(*c.env, o.S, o.Types)
	mustBeCore(e == api.OK && n == o.N, e)
	a = applied(named(o.S), o.Types...)
	c.kind(a)
	return a, b
}

func (c context) familyTypes(o *api.Co) (a, b api.Type) {
	f := c.families[o.S]
	must(f != nil && f.Arity == len(o.Args))
	a, b = named(o.S), named(o.S)
	for i := range o.Args {
		from, to := c.coercion(&o.Args[i])
		a, b = applied(a, from), applied(b, to)
	}
	c.mustHaveOneKind(full(a), full(b))
	return a, b
}

func (c context) functions(o *api.Co) (a, b api.Type) {
	a, b = c.divided(o)
	return a.Args[0], b.Args[0]
}

func (c context) arguments(o *api.Co) (a, b api.Type) {
	a, b = c.divided(o)
	return a.Args[1], b.Args[1]
}

// divided returns the types of what is in a coercion, if these are the same just if their parts are: the parts of family types can be others.
func (c context) divided(o *api.Co) (a, b api.Type) {
	a, b = c.coercion(&o.Args[0])
	must(a.Op == api.YApp && b.Op == api.YApp && c.families.Of(&a) == nil && c.families.Of(&b) == nil)
	c.mustHaveOneKind(a.Args[0], b.Args[0])
	c.mustHaveOneKind(a.Args[1], b.Args[1])
	return a, b
}
