package infer

import (
	"damask/api"
	"damask/free"
)

// locals goes through local declarations, and returns what is bound around all that can use them.
func (g *gatherer) locals(in around, l []api.Decl) around {
	if len(l) == 0 {
		return in
	}
	in = in.inside()
	signed := map[string][]string{} // the names that a DSig binds
	for i := range l {
		if d := &l[i]; d.Op == api.DSig {
			in.bind(d.Name, g.annotation(in, &d.Type, star()))
			signed[d.Name] = binders(&d.Type)
		}
	}
	for _, group := range free.Groups(l) {
		g.group(in, l, group, signed)
	}
	return in
}

// group goes through DBinds that need each other. They are not general for each other.
func (g *gatherer) group(in around, l []api.Decl, group []int, signed map[string][]string) {
	for _, i := range group {
		if _, ok := signed[l[i].Name]; !ok {
			in.bind(l[i].Name, g.newMeta(star()))
		}
	}
	for _, i := range group {
		d := &l[i]
		t, _ := in.variable(d.Name)
		g.define(in, d, signed[d.Name], t)
	}
}

// define lets the clauses of a DBind have a type, some of whose foralls have names that are scoped in them.
func (g *gatherer) define(in around, d *api.Decl, names []string, t api.Type) {
	defer g.back(g.present)
	t, rigids := g.enter(t)
	in = in.withScoped(names, rigids)
	var columns []api.Type
	for range d.Alts[0].Pats {
		t, _ = g.enter(t)
		a, b := g.split(t)
		columns = append(columns, a)
		t = b
	}
	for i := range d.Alts {
		g.alternative(in, &d.Alts[i], columns, t)
	}
}

// alternative lets patterns have the types of columns, and the values behind them a type.
func (g *gatherer) alternative(in around, a *api.Alt, columns []api.Type, t api.Type) {
	defer g.back(g.present)
	in = in.inside()
	for i := range a.Pats {
		g.pattern(in, &a.Pats[i], columns[i])
	}
	in = g.locals(in, a.Where)
	for i := range a.Rhs {
		guard := &a.Rhs[i]
		for j := range guard.If {
			g.check(in, &guard.If[j], named("Bool"))
		}
		g.check(in, &guard.Then, t)
	}
}
