package decl

import (
	"damask/anew"
	"damask/api"
	"damask/kind"
	"damask/leave"
	"damask/rewrite"
	"damask/types"
)

// builder makes an environment, part by part. Errors leave it.
type builder struct {
	env     api.Env
	decls   []api.Decl
	derived []api.Decl
	at      int         // the position of the declaration that is looked at
	place   map[int]int // where what a declaration enters stands in its list of the environment
	known   rewrite.Families
	heads   heads
}

// part says what is done with the declarations of some Ops.
type part map[int]func(d *api.Decl)

func (b *builder) environment() api.Env {
	b.goThrough(part{api.DData: b.enterData, api.DNew: b.enterData, api.DFamily: b.enterFamily, api.DClass: b.enterClass})
	b.known = rewrite.Known(&b.env)
	for _, p := range b.parts() {
		b.goThrough(p)
	}
	return anew.Env(&b.env)
}

// parts returns all parts but the first, in which names are entered.
func (b *builder) parts() []part {
	return []part{
		{api.DData: b.checkData, api.DNew: b.checkData, api.DFamily: b.checkFamily, api.DClass: b.checkClass},
		{api.DData: b.constructors, api.DNew: b.constructors},
		{api.DFamily: b.equations},
		{api.DClass: b.class},
		{api.DClass: b.ring},
		{api.DInst: b.instance},
		{api.DData: b.derive, api.DNew: b.derive},
		{api.DSig: b.signature, api.DData: b.selectors, api.DNew: b.selectors, api.DClass: b.methods},
	}
}

func (b *builder) goThrough(p part) {
	for i := range b.decls {
		b.at = i
		if do := p[b.decls[i].Op]; do != nil {
			do(&b.decls[i])
		}
	}
}

func (b *builder) enterData(d *api.Decl) {
	b.place[b.at] = len(b.env.Data)
	b.env.Data = append(b.env.Data, api.DataType{Name: d.Name, Kind: nameless(&d.Type, inContext()), New: d.Op == api.DNew})
}

// enterFamily needs the first equation alone: kinds and other families can name this one before its equations are looked at.
func (b *builder) enterFamily(d *api.Decl) {
	f := api.Family{Name: d.Name, Kind: nameless(&d.Type, inContext())}
	f.Arity, _, _ = kind.Arity(f.Kind)
	if len(d.Eqs) > 0 {
		f.Arity = 0
		for left := &d.Eqs[0].Left; left.Op == api.YApp; left = &left.Args[0] {
			f.Arity++
		}
	}
	b.place[b.at] = len(b.env.Families)
	b.env.Families = append(b.env.Families, f)
}

func (b *builder) enterClass(d *api.Decl) {
	c := api.Class{Name: d.Name}
	for i := range d.Vars {
		c.Vars = append(c.Vars, nameless(&d.Vars[i].Kind, inContext()))
	}
	b.place[b.at] = len(b.env.Classes)
	b.env.Classes = append(b.env.Classes, c)
}

// data returns what the declaration of a data type that is looked at has entered.
func (b *builder) data() *api.DataType { return &b.env.Data[b.place[b.at]] }

func (b *builder) checkData(*api.Decl) {
	k := b.data().Kind
	b.mustBeType(nil, k)
	if _, end, _ := kind.Arity(k); !isConstant(end, "Type") {
		leave.With(api.ErrForm)
	}
}

func (b *builder) checkFamily(*api.Decl) {
	b.mustBeType(nil, b.env.Families[b.place[b.at]].Kind)
}

func (b *builder) checkClass(d *api.Decl) {
	b.mustBeType(nil, leave.Must(kind.Constant(b.env, d.Name)))
}

// must leaves if a type has not a kind in a context.
func (b *builder) must(ctx []api.Type, t, k api.Type) {
	if e := kind.Check(b.env, nil, nil, ctx, proper(t), k); e != api.OK {
		leave.With(e)
	}
}

func (b *builder) mustBeType(ctx []api.Type, t api.Type)       { b.must(ctx, t, named("Type")) }
func (b *builder) mustBeConstraint(ctx []api.Type, t api.Type) { b.must(ctx, t, named("Constraint")) }

// kindOf returns the kind of a type that has one.
func (b *builder) kindOf(ctx []api.Type, t api.Type) api.Type {
	return leave.Must(kind.Kind(b.env, nil, nil, ctx, t))
}

// shifted returns a type with other variables behind those that it knows.
func shifted(t api.Type, by int) api.Type { return leave.Must(types.Shift(t, by, 0)) }

func put(t api.Type, l []api.Type) api.Type { return leave.Must(types.Put(t, l)) }
