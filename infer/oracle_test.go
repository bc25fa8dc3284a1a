package infer

import (
	"slices"

	"damask/api"
	"damask/types"
)

// The oracle finds types as in the literature: types are cells that become each other at once, and without constraints, foralls or anything that is checked rather than found.

// cell is a type: a constant with arguments, or a variable that can become another one.
type cell struct {
	became *cell
	name   string
	args   []*cell
}

func (c *cell) last() *cell {
	for c.became != nil {
		c = c.became
	}
	return c
}

func made(name string, args ...*cell) *cell { return &cell{name: name, args: args} }

// general is a type some of whose variables are new in each use.
type general struct {
	t    *cell
	vars []*cell
}

type oracle struct {
	env    api.Env
	bound  map[string]general
	failed bool
}

func (o *oracle) same(a, b *cell) {
	a, b = a.last(), b.last()
	switch {
	case a == b:
	case a.name == "":
		if b.has(a) {
			o.failed = true
			return
		}
		a.became = b
	case b.name == "":
		o.same(b, a)
	case a.name != b.name || len(a.args) != len(b.args):
		o.failed = true
	default:
		for i := range a.args {
			o.same(a.args[i], b.args[i])
		}
	}
}

func (c *cell) has(v *cell) bool {
	c = c.last()
	return c == v || slices.ContainsFunc(c.args, func(a *cell) bool { return a.has(v) })
}

// read makes a cell of a closed type with foralls at its beginning, of which the last one is the variable 0.
func read(t api.Type, vars []*cell) *cell {
	for ; t.Op == api.YAll; t = t.Args[1] {
		vars = append(slices.Clip(vars), &cell{})
	}
	if t.Op == api.YVar {
		return vars[len(vars)-1-t.N]
	}
	head, args, _ := types.Spine(t)
	c := made(head.S)
	for _, a := range args {
		c.args = append(c.args, read(a, vars))
	}
	return c
}

func (o *oracle) use(name string) *cell {
	g, ok := o.bound[name]
	if !ok {
		for _, s := range o.env.Sigs {
			if s.Name == name {
				return read(s.Type, nil)
			}
		}
		panic(name + " is not bound")
	}
	fresh := map[*cell]*cell{}
	for _, v := range g.vars {
		fresh[v] = &cell{}
	}
	var copied func(c *cell) *cell
	copied = func(c *cell) *cell {
		c = c.last()
		if n := fresh[c]; n != nil {
			return n
		}
		if c.name == "" {
			return c
		}
		m := made(c.name)
		for _, a := range c.args {
			m.args = append(m.args, copied(a))
		}
		return m
	}
	return copied(g.t)
}

// con returns the types of a constructor's arguments, and that of its values.
func (o *oracle) con(name string) ([]*cell, *cell, []string) {
	for _, c := range o.env.Cons {
		if c.Name != name {
			continue
		}
		var univ, args []*cell
		for range c.Univ {
			univ = append(univ, &cell{})
		}
		for _, a := range c.Args {
			args = append(args, read(a, univ))
		}
		return args, made(c.Data, univ...), c.Fields
	}
	panic(name + " is no constructor")
}

func (o *oracle) expr(e api.Expr) *cell {
	switch e.Op {
	case api.XVar:
		return o.use(e.S)
	case api.XInt:
		return made("Int")
	case api.XCon:
		args, t, _ := o.con(e.S)
		for _, a := range slices.Backward(args) {
			t = made("->", a, t)
		}
		return t
	case api.XApp:
		f, a, b := o.expr(e.Args[0]), o.expr(e.Args[1]), &cell{}
		o.same(f, made("->", a, b))
		return b
	case api.XLam:
		return o.clause(api.Alt{Pats: e.Pats, Rhs: []api.Guard{{Then: e.Args[0]}}})
	case api.XLet:
		o.decls(e.Decls)
		return o.expr(e.Args[0])
	case api.XIf:
		o.same(o.expr(e.Args[0]), made("Bool"))
		t := o.expr(e.Args[1])
		o.same(t, o.expr(e.Args[2]))
		return t
	case api.XCase:
		t := made("->", o.expr(e.Args[0]), &cell{})
		for _, a := range e.Alts {
			o.same(o.clause(a), t)
		}
		return t.args[1]
	case api.XRec:
		args, t, fields := o.con(e.S)
		for i, f := range e.Fields {
			o.same(o.expr(e.Args[i]), args[slices.Index(fields, f)])
		}
		return t
	case api.XUpd: // the only field there is
		args, t, _ := o.con("M.Some")
		o.same(o.expr(e.Args[0]), t)
		o.same(o.expr(e.Args[1]), args[0])
		return t
	}
	panic("another expression")
}

// clause returns the type of a function with one clause. All names are different, so that they can stay bound.
func (o *oracle) clause(a api.Alt) *cell {
	var columns []*cell
	for _, p := range a.Pats {
		columns = append(columns, o.pat(p))
	}
	o.decls(a.Where)
	t := &cell{}
	for _, g := range a.Rhs {
		for _, c := range g.If {
			o.same(o.expr(c), made("Bool"))
		}
		o.same(o.expr(g.Then), t)
	}
	for _, c := range slices.Backward(columns) {
		t = made("->", c, t)
	}
	return t
}

func (o *oracle) pat(p api.Pat) *cell {
	switch p.Op {
	case api.PInt:
		return made("Int")
	case api.PCon:
		args, t, _ := o.con(p.S)
		for i, a := range args {
			o.same(o.pat(p.Args[i]), a)
		}
		return t
	}
	t := &cell{}
	for _, inner := range p.Args {
		t = o.pat(inner)
	}
	if p.S != "" {
		o.bound[p.S] = general{t: t}
	}
	return t
}

func (o *oracle) decls(l []api.Decl) {
	for _, d := range l {
		o.bound[d.Name] = general{t: &cell{}}
	}
	for _, d := range l {
		for _, a := range d.Alts {
			o.same(o.bound[d.Name].t, o.clause(a))
		}
	}
}

// program returns the types of all definitions, or the first one of the group that has none.
func (o *oracle) program(p api.Program) (map[string]api.Type, int) {
	found := map[string]api.Type{}
	for _, group := range p.Groups {
		var l []api.Decl
		for _, i := range group {
			l = append(l, p.Decls[i])
		}
		o.decls(l)
		if o.failed {
			return nil, group[0]
		}
		for _, d := range l {
			t, vars := o.bound[d.Name].t, []*cell{}
			found[d.Name] = closed(t, &vars)
			o.bound[d.Name] = general{t, vars}
		}
	}
	return found, -1
}

// closed makes a type of a cell, general in all its variables, in the order in which they stand in it.
func closed(c *cell, vars *[]*cell) api.Type {
	var list func(c *cell)
	list = func(c *cell) {
		c = c.last()
		if c.name == "" && !slices.Contains(*vars, c) {
			*vars = append(*vars, c)
		}
		for _, a := range c.args {
			list(a)
		}
	}
	list(c)
	var write func(c *cell) api.Type
	write = func(c *cell) api.Type {
		c = c.last()
		if c.name == "" {
			return api.Type{Op: api.YVar, N: len(*vars) - 1 - slices.Index(*vars, c)}
		}
		t := api.Type{Op: api.YCon, S: c.name}
		for _, a := range c.args {
			t = api.Type{Op: api.YApp, Args: []api.Type{t, write(a)}}
		}
		return t
	}
	t := write(c)
	for range *vars {
		t = api.Type{Op: api.YAll, Args: []api.Type{{Op: api.YCon, S: "Type"}, t}}
	}
	return t
}
