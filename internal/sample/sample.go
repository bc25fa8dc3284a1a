// Package sample makes parts of modules that are well built, for the tests of other packages: which ones, is up to the numbers that it is given.
package sample

import "damask/api"

// Maker chooses by a function that returns a number from 0 to n - 1.
type Maker struct {
	Choose func(n int) int
}

// One returns one of some strings.
func (m Maker) One(l ...string) string { return l[m.Choose(len(l))] }

func some[T any](m Maker, least int, item func() T) []T {
	var l []T
	for range least + m.Choose(3) {
		l = append(l, item())
	}
	return l
}

func (m Maker) small() string   { return m.One("x", "y", "f'") }
func (m Maker) capital() string { return m.One("A", "B_", "C'") }
func (m Maker) op() string      { return m.One("+", "==", "|>", "!~", "\\/", "@@") }
func (m Maker) variable() string {
	return m.One(m.small(), m.small(), m.op())
}
func (m Maker) name() string { return m.One(m.variable(), m.capital()) }

// Module returns a module that is small.
func (m Maker) Module() api.Module {
	x := api.Module{Name: m.capital(), All: m.Choose(2) == 0}
	if !x.All {
		x.Exports = some(m, 0, m.name)
	}
	if m.Choose(2) == 0 {
		x.Imports = []api.Import{{Module: m.capital(), All: true}, {Module: m.capital(), Names: some(m, 0, m.name)}}
	}
	x.Decls = m.list(m.decl)
	return x
}

func (m Maker) decl() api.Decl {
	typ := func() api.Type { return m.Type(3) }
	switch m.Choose(7) {
	case 0:
		return api.Decl{Op: api.DData + m.Choose(2), Name: m.capital(), Type: typ(), Cons: some(m, 0, m.con), Deriving: some(m, 0, m.capital)}
	case 1:
		equation := func() api.Eq { return api.Eq{Left: typ(), Right: typ()} }
		return api.Decl{Op: api.DFamily, Name: m.capital(), Type: typ(), Eqs: some(m, 0, equation)}
	case 2:
		dep := func() api.Dep { return api.Dep{From: some(m, 1, m.small), To: some(m, 1, m.small)} }
		sig := func() api.Sig { return api.Sig{Name: m.variable(), Type: typ()} }
		return api.Decl{Op: api.DClass, Name: m.capital(), Vars: some(m, 0, m.binder), Context: some(m, 0, typ), Deps: some(m, 0, dep), Sigs: some(m, 0, sig)}
	case 3:
		return api.Decl{Op: api.DInst, Type: typ(), Decls: m.list(func() api.Decl { return m.bind(2) })}
	}
	return m.local(1 + m.Choose(3))
}

func (m Maker) con() api.Con {
	c := api.Con{Name: m.capital(), Type: m.Type(3)}
	if m.Choose(2) == 0 {
		return c
	}
	c.Fields = some(m, 1, m.small)
	for range c.Fields {
		c.Type = function(m.Type(2), c.Type)
	}
	for _, b := range some(m, 0, m.binder) {
		c.Type = api.Type{Op: api.YAll, S: b.Name, Args: []api.Type{b.Kind, c.Type}}
	}
	return c
}

func (m Maker) binder() api.Binder { return api.Binder{Name: m.small(), Kind: m.Type(2)} }

// list makes some declarations, with the clauses of a name that follow each other together.
func (m Maker) list(item func() api.Decl) []api.Decl {
	var l []api.Decl
	for range m.Choose(4) {
		d := item()
		if n := len(l) - 1; n >= 0 && d.Op == api.DBind && l[n].Op == api.DBind && l[n].Name == d.Name {
			l[n].Alts = append(l[n].Alts, d.Alts...)
		} else {
			l = append(l, d)
		}
	}
	return l
}

func (m Maker) locals(depth int) []api.Decl {
	return m.list(func() api.Decl { return m.local(depth) })
}

func (m Maker) local(depth int) api.Decl {
	switch m.Choose(4) {
	case 0:
		return api.Decl{Op: api.DSig, Name: m.variable(), Type: m.Type(3)}
	case 1:
		return api.Decl{Op: api.DFix, Name: m.op(), S: m.One("infix", "infixl", "infixr"), N: m.Choose(10)}
	}
	return m.bind(depth)
}

func (m Maker) bind(depth int) api.Decl {
	alt := func() api.Alt { return m.alt(depth, some(m, 0, func() api.Pat { return m.Pat(2) })) }
	return api.Decl{Op: api.DBind, Name: m.variable(), Alts: some(m, 1, alt)}
}

func (m Maker) alt(depth int, pats []api.Pat) api.Alt {
	a := api.Alt{Pats: pats, Rhs: []api.Guard{{Then: m.Expr(depth)}}}
	if m.Choose(2) == 0 {
		a.Rhs = some(m, 1, func() api.Guard { return api.Guard{If: []api.Expr{m.Expr(depth)}, Then: m.Expr(depth)} })
	}
	if m.Choose(3) == 0 {
		a.Where = m.locals(depth)
	}
	return a
}
