package infer

import (
	"slices"

	"damask/api"
	"damask/decl"
	"damask/leave"
)

// record finds the type of a constructor with fields.
func (g *gatherer) record(in around, e *api.Expr) api.Type {
	c := leave.Must(decl.Con(*g.env, e.S))
	if !decl.IsPlain(c) || len(c.Fields) == 0 || len(e.Fields) != len(c.Fields) || !areFields(e.Fields, &c) {
		leave.With(api.ErrField)
	}
	univ := g.newMetas(c.Univ)
	g.fields(in, &c, univ, e.Fields, e.Args)
	return applied(c.Data, univ...)
}

// update finds the type of an expression with some fields anew.
func (g *gatherer) update(in around, e *api.Expr) api.Type {
	i := slices.IndexFunc(g.env.Cons, func(c api.DataCon) bool { return areFields(e.Fields, &c) })
	if i < 0 || len(e.Fields) == 0 {
		leave.With(api.ErrField)
	}
	c := &g.env.Cons[i]
	univ := g.newMetas(c.Univ)
	t := applied(c.Data, univ...)
	g.check(in, &e.Args[0], t)
	g.fields(in, c, univ, e.Fields, e.Args[1:])
	return t
}

// areFields reports whether a constructor has all of some fields, and none of them is there twice.
func areFields(l []string, c *api.DataCon) bool {
	seen := map[string]bool{}
	for _, field := range l {
		if seen[field] || !slices.Contains(c.Fields, field) {
			return false
		}
		seen[field] = true
	}
	return true
}

// fields lets values have the types of the fields that they are for.
func (g *gatherer) fields(in around, c *api.DataCon, univ []api.Type, l []string, values []api.Expr) {
	for i, field := range l {
		t := put(c.Args[slices.Index(c.Fields, field)], univ...)
		g.check(in, &values[i], t)
	}
}
