package infer

import (
	"damask/api"
	"damask/decl"
	"damask/leave"
)

// pattern lets a pattern have a type, and binds its variables.
func (g *gatherer) pattern(in around, p *api.Pat, t api.Type) { g.within(in, p, t, false) }

// within goes through a pattern, which can be in a lazy one.
func (g *gatherer) within(in around, p *api.Pat, t api.Type, lazy bool) {
	switch p.Op {
	case api.PWild:
	case api.PVar:
		in.bind(p.S, t)
	case api.PInt:
		g.want(equation(t, named("Int")))
	case api.PAs:
		in.bind(p.S, t)
		g.within(in, &p.Args[0], t, lazy)
	case api.PBang:
		g.within(in, &p.Args[0], t, lazy)
	case api.PLazy:
		g.within(in, &p.Args[0], t, true)
	case api.PCon:
		g.constructor(in, p, t, lazy)
	default:
		leave.With(api.ErrArg)
	}
}

// constructor begins an implication for what a constructor that is not plain says: it is present for all that follows.
func (g *gatherer) constructor(in around, p *api.Pat, t api.Type, lazy bool) {
	c := leave.Must(decl.Con(*g.env, p.S))
	if len(p.Args) != len(c.Args) || lazy && !decl.IsPlain(c) {
		leave.With(api.ErrForm)
	}
	context := g.universal(&c, t)
	if !decl.IsPlain(c) {
		g.open()
		for _, k := range c.Exis {
			r := g.newRigid(put(k, context...))
			context = append(context, r)
		}
		for _, e := range c.Eqs {
			g.give(equation(put(e.Left, context...), put(e.Right, context...)))
		}
		for _, c := range c.Given {
			g.give(put(c, context...))
		}
	}
	for i := range p.Args {
		g.within(in, &p.Args[i], put(c.Args[i], context...), lazy)
	}
}

// universal returns the types of the Univ variables of a constructor whose values have a type.
func (g *gatherer) universal(c *api.DataCon, t api.Type) []api.Type {
	if l, ok := parts(t, c.Data, len(c.Univ)); ok {
		return l
	}
	l := g.newMetas(c.Univ)
	g.want(equation(t, applied(c.Data, l...)))
	return l
}
