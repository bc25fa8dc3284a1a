package core

import (
	"maps"
	"slices"

	"damask/api"
	"damask/types"
)

// numbers are those of variables.
type numbers map[int]bool

func (l numbers) numbers() []int { return slices.Sorted(maps.Keys(l)) }

// add adds a variable, if it is none of those that are bound.
func (l numbers) add(n, bound int) {
	if n >= bound {
		l[n-bound] = true
	}
}

// found are the free variables that a term has.
type found struct {
	context          context
	types, cos, vars numbers
}

// bound says how many variables are bound where something stands.
type bound struct{ types, cos, vars int }

func freeIn(env *api.Env, c *api.Core) *found {
	f := &found{newContext(env), numbers{}, numbers{}, numbers{}}
	f.term(c, bound{})
	return f
}

func (f *found) term(c *api.Core, b bound) {
	for i := range c.Types {
		f.typ(c.Types[i], b)
	}
	for i := range c.Co {
		f.co(&c.Co[i], b)
	}
	if c.Op == api.CVar {
		f.vars.add(c.N, b.vars)
	}
	in := b
	switch c.Op {
	case api.CLam:
		in.vars++
	case api.CTLam:
		in.types++
	case api.CQLam:
		in.cos++
	case api.CLet:
		in.vars += len(c.Types)
	}
	for i := range c.Args {
		f.term(&c.Args[i], in)
	}
	for i := range c.Alts {
		f.term(&c.Alts[i].Body, f.within(&c.Alts[i], b))
	}
}

// within adds what an alternative binds.
func (f *found) within(a *api.CoreAlt, b bound) bound {
	b.vars++
	if a.Op != api.ACon {
		return b
	}
	if con := f.context.index.Cons[a.S]; con != nil {
		return bound{b.types + len(con.Exis), b.cos + len(con.Eqs), b.vars + len(con.Given) + len(con.Args)}
	}
	class := f.context.classOf(a.S)
	must(class != nil)
	b.vars += len(class.Supers) + len(class.Sigs)
	return b
}

func (f *found) co(o *api.Co, b bound) {
	for i := range o.Types {
		f.typ(o.Types[i], b)
	}
	switch o.Op {
	case api.OVar:
		f.cos.add(o.N, b.cos)
	case api.OAll:
		b.types++
	}
	for i := range o.Args {
		f.co(&o.Args[i], b)
	}
}

func (f *found) typ(t api.Type, b bound) {
	l, _ := types.Free(t)
	for _, n := range l {
		f.types.add(n, b.types)
	}
}
