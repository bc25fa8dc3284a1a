package infer

import (
	"slices"

	"damask/api"
	"damask/leave"
)

// instance makes sure that an instance has what its class promises.
func (p *program) instance(d *api.Decl, of *api.Instance) {
	class := p.class(of.Class)
	p.done(p.superclasses(class, of))
	for i := range class.Sigs {
		s := &class.Sigs[i]
		n := slices.IndexFunc(d.Decls, func(d api.Decl) bool { return d.Name == s.Name })
		p.done(p.method(binders(&d.Type), of, s.Type, &d.Decls[n]))
	}
}

func (p *program) class(name string) *api.Class {
	n := slices.IndexFunc(p.env.Classes, func(c api.Class) bool { return c.Name == name })
	if n < 0 {
		leave.With(api.ErrArg)
	}
	return &p.env.Classes[n]
}

// begin enters the implication of an instance: it returns what its variables are there, and what it is for.
func (p *program) begin(of *api.Instance) (g *gatherer, rigids, args []api.Type) {
	g = newGatherer(p.env, p.globals)
	g.open()
	for _, k := range of.Vars {
		r := g.newRigid(put(k, rigids...))
		rigids = append(rigids, r)
	}
	for _, c := range of.Context {
		g.give(put(c, rigids...))
	}
	return g, rigids, putEach(of.Args, rigids)
}

func (p *program) superclasses(class *api.Class, of *api.Instance) task {
	g, _, args := p.begin(of)
	for _, c := range class.Supers {
		g.want(put(c, args...))
	}
	return settled(g)
}

// method makes the task of one method, in which the names of the instance's variables are scoped.
func (p *program) method(names []string, of *api.Instance, t api.Type, d *api.Decl) task {
	g, rigids, args := p.begin(of)
	g.define(around{}.withScoped(names, rigids), d, nil, put(t, args...))
	return settled(g)
}
