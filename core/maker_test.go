package core

import (
	"math/rand"

	"damask/api"
	"damask/decl"
	"damask/kind"
	"damask/types"
)

// maker makes terms that are right, of types that are wanted. Types and terms stand in the context that it has.
type maker struct {
	*rand.Rand
	env   api.Env
	sigs  []api.Sig
	kinds []api.Type
	cos   []api.Eq
	vars  []api.Type
}

// makerSigs has a global of each type, so that there are terms of all types.
func makerSigs() []api.Sig {
	return append(globals(), api.Sig{Name: "any", Type: forall(named("Type"), api.Type{Op: api.YVar})})
}

func newMaker(r *rand.Rand, e api.Env) *maker {
	m := &maker{Rand: r, env: e, sigs: makerSigs()}
	for range r.Intn(4) {
		m.addKind(m.kind())
	}
	for range r.Intn(3) {
		k := m.kind()
		m.cos = append(m.cos, api.Eq{Left: m.typ(k, 2), Right: m.typ(k, 2)})
	}
	for range r.Intn(4) {
		m.vars = append(m.vars, m.valued(2))
	}
	return m
}

// up shifts a type that is taken into the context of one more kind.
func up(t api.Type) api.Type { return shifted(t, 1) }

func (m *maker) addKind(k api.Type) {
	m.kinds = append(m.kinds[:len(m.kinds):len(m.kinds)], k)
	var cos []api.Eq
	for _, e := range m.cos {
		cos = append(cos, api.Eq{Left: up(e.Left), Right: up(e.Right)})
	}
	var vars []api.Type
	for _, t := range m.vars {
		vars = append(vars, up(t))
	}
	m.cos, m.vars = cos, vars
}

func (m *maker) addPair(a, b api.Type) {
	m.cos = append(m.cos[:len(m.cos):len(m.cos)], api.Eq{Left: a, Right: b})
}
func (m *maker) addVar(t api.Type) { m.vars = append(m.vars[:len(m.vars):len(m.vars)], t) }

// inside makes something in a context that more is added to.
func (m *maker) inside(add func(m *maker), make func(m *maker) api.Core) api.Core {
	in := *m
	add(&in)
	return make(&in)
}

func star() api.Type { return named("Type") }

func (m *maker) kind() api.Type {
	return []api.Type{star(), star(), star(), named("Nat"), arrow(star(), star())}[m.Intn(5)]
}

// typ makes a type of a kind.
func (m *maker) typ(k api.Type, depth int) api.Type {
	var vars []api.Type
	for i := range m.kinds {
		if types.Same(shifted(m.kinds[len(m.kinds)-1-i], i+1), k) {
			vars = append(vars, api.Type{Op: api.YVar, N: i})
		}
	}
	if len(vars) > 0 && m.Intn(2) == 0 {
		return vars[m.Intn(len(vars))]
	}
	t := func(k api.Type) api.Type { return m.typ(k, depth-1) }
	switch {
	case types.Same(k, star()):
		return m.starType(depth)
	case types.Same(k, named("Nat")):
		if depth <= 0 || m.Intn(2) == 0 {
			return named("'Z")
		}
		if m.Intn(3) == 0 {
			return applied(named("Plus"), t(k), t(k))
		}
		return applied(named("'S"), t(k))
	case types.Same(k, arrow(star(), star())):
		l := []api.Type{named("List"), named("IO"), applied(named("Box"), named("'Z"))}
		if depth > 0 {
			l = append(l, applied(named("Pair"), t(star())), applied(named("->"), t(star())))
		}
		return l[m.Intn(len(l))]
	}
	panic("no such kind")
}

func (m *maker) starType(depth int) api.Type {
	simple := []string{"Int", "Int", "Bool", "Unit", "Nat", "Some", "Age", "Void", "Hidden", "Poly", "Unit2"}
	if depth <= 0 {
		return named(simple[m.Intn(len(simple))])
	}
	t := func() api.Type { return m.typ(star(), depth-1) }
	nat := func() api.Type { return m.typ(named("Nat"), depth-1) }
	con := func() api.Type { return m.typ(arrow(star(), star()), depth-1) }
	switch m.Intn(16) {
	case 0, 1:
		return arrow(t(), t())
	case 2:
		return applied(named("List"), t())
	case 3:
		return applied(named("Vec"), t(), nat())
	case 4:
		return applied(named("Is"), t(), t())
	case 5:
		return applied(named("Both"), t())
	case 6:
		return applied(con(), t())
	case 7:
		return applied(named("Elem"), t())
	case 8:
		return applied(named("Wrap"), con(), t())
	case 9:
		return applied(named("Proxy"), named("Nat"), nat())
	case 10, 11:
		in := *m
		k := m.kind()
		in.addKind(k)
		return forall(k, in.typ(star(), depth-1))
	case 12:
		return imply(m.constraint(depth-1), t())
	case 13:
		k := m.kind()
		return imply(equal(m.typ(k, depth-1), m.typ(k, depth-1)), t())
	}
	return named(simple[m.Intn(len(simple))])
}

func (m *maker) constraint(depth int) api.Type {
	switch m.Intn(5) {
	case 0:
		return named("Empty")
	case 1:
		return applied(named("Ord"), m.typ(star(), depth))
	case 2:
		return applied(named("Conv"), m.typ(star(), depth), m.typ(star(), depth))
	case 3:
		return applied(named("Functor"), m.typ(arrow(star(), star()), depth))
	}
	return applied(named("Eq"), m.typ(star(), depth))
}

// valued makes a type of values.
func (m *maker) valued(depth int) api.Type {
	if m.Intn(4) == 0 {
		return m.constraint(depth)
	}
	return m.typ(star(), depth)
}

func con(s string) api.Core { return api.Core{Op: api.CCon, S: s} }

func app(f api.Core, l ...api.Core) api.Core {
	for _, a := range l {
		f = api.Core{Op: api.CApp, Args: []api.Core{f, a}}
	}
	return f
}

func at(f api.Core, l ...api.Type) api.Core {
	for _, t := range l {
		f = api.Core{Op: api.CTApp, Args: []api.Core{f}, Types: []api.Type{t}}
	}
	return f
}

// term makes a term of a type of values.
func (m *maker) term(t api.Type, depth int) api.Core {
	if c, found := m.variable(t); found && m.Intn(3) == 0 {
		return c
	}
	if isConstant(m.kindOf(t), "Constraint") {
		return m.dictionary(t, depth)
	}
	if depth <= 0 {
		return m.leaf(t)
	}
	if c, found := m.byType(t, depth); found && m.Intn(3) > 0 {
		return c
	}
	switch m.Intn(9) {
	case 0, 1:
		a := m.valuedOr(1)
		f := t
		if isConstant(m.kindOf(a), "Constraint") {
			f = imply(a, t)
		} else {
			f = arrow(a, t)
		}
		return app(m.term(f, depth-1), m.term(a, depth-1))
	case 2:
		return m.let(t, depth)
	case 3, 4:
		return m.cases(t, depth)
	case 5:
		o, from := m.coTo(t, 3)
		return api.Core{Op: api.CCast, Args: []api.Core{m.term(from, depth-1)}, Co: []api.Co{o}}
	case 6:
		k := m.kind()
		body := m.inside(func(m *maker) { m.addKind(k) }, func(in *maker) api.Core { return in.term(up(t), depth-1) })
		return at(api.Core{Op: api.CTLam, Types: []api.Type{k}, Args: []api.Core{body}}, m.typ(k, 2))
	case 7:
		o, from := m.coTo(m.typ(m.kind(), 1), 2)
		_, to := m.sides(o)
		return api.Core{Op: api.CQApp, Args: []api.Core{m.term(imply(equal(from, to), t), depth-1)}, Co: []api.Co{o}}
	}
	return m.leaf(t)
}

func (m *maker) valuedOr(depth int) api.Type { return m.valued(depth) }

func (m *maker) kindOf(t api.Type) api.Type {
	return ok(kind.Kind(m.env, nil, nil, m.kinds, t))
}

// sides are those of a coercion that is right.
func (m *maker) sides(o api.Co) (api.Type, api.Type) {
	a, b, e := Coercion(m.env, m.kinds, m.cos, o)
	if e != api.OK {
		panic("a coercion is not right")
	}
	return a, b
}

func (m *maker) variable(t api.Type) (api.Core, bool) {
	for i := range m.vars {
		if types.Same(m.vars[len(m.vars)-1-i], t) {
			return api.Core{Op: api.CVar, N: i}, true
		}
	}
	return api.Core{}, false
}

func (m *maker) leaf(t api.Type) api.Core {
	if c, found := m.variable(t); found {
		return c
	}
	if isConstant(t, "Int") {
		return api.Core{Op: api.CInt, N: m.Intn(5) - 2}
	}
	for _, s := range m.sigs {
		if types.Same(s.Type, t) && s.Name != "five" && m.Intn(2) == 0 {
			return api.Core{Op: api.CGlob, S: s.Name}
		}
	}
	return at(api.Core{Op: api.CGlob, S: "any"}, t)
}

// byType makes a term of the form that a type asks for.
func (m *maker) byType(t api.Type, depth int) (api.Core, bool) {
	a, b, isFunction := partsOf(t, "->")
	switch {
	case isFunction:
		body := m.inside(func(m *maker) { m.addVar(a) }, func(in *maker) api.Core { return in.term(b, depth-1) })
		return api.Core{Op: api.CLam, Types: []api.Type{a}, Args: []api.Core{body}}, true
	case t.Op == api.YAll:
		body := m.inside(func(m *maker) { m.addKind(t.Args[0]) }, func(in *maker) api.Core { return in.term(t.Args[1], depth-1) })
		return api.Core{Op: api.CTLam, Types: t.Args[:1], Args: []api.Core{body}}, true
	case t.Op == api.YImp:
		if a, b, isEquation := partsOf(t.Args[0], "~"); isEquation {
			body := m.inside(func(m *maker) { m.addPair(a, b) }, func(in *maker) api.Core { return in.term(t.Args[1], depth-1) })
			return api.Core{Op: api.CQLam, Types: []api.Type{a, b}, Args: []api.Core{body}}, true
		}
		body := m.inside(func(m *maker) { m.addVar(t.Args[0]) }, func(in *maker) api.Core { return in.term(t.Args[1], depth-1) })
		return api.Core{Op: api.CLam, Types: t.Args[:1], Args: []api.Core{body}}, true
	}
	head, args, _ := types.Spine(t)
	for _, d := range m.env.Data {
		if !isConstant(head, d.Name) || len(d.Cons) == 0 {
			continue
		}
		if d.New {
			c, _ := decl.ConType(m.env, d.Cons[0])
			for _, a := range args {
				c = put(c.Args[1], []api.Type{a})
			}
			return api.Core{Op: api.CNew, S: d.Name, Types: args, Args: []api.Core{m.term(c.Args[0].Args[1], depth-1)}}, true
		}
		c, _ := decl.ConType(m.env, d.Cons[m.Intn(len(d.Cons))])
		return m.constructed(d.Cons, c, args, depth)
	}
	return api.Core{}, false
}

// constructed makes a value with one of some constructors, if it needs no equation that does not hold by itself.
func (m *maker) constructed(cons []string, _ api.Type, args []api.Type, depth int) (api.Core, bool) {
	name := cons[m.Intn(len(cons))]
	t, _ := decl.ConType(m.env, name)
	made := at(con(name), args...)
	for _, a := range args {
		t = put(t.Args[1], []api.Type{a})
	}
	for t.Op == api.YAll {
		a := m.typ(t.Args[0], 1)
		if !isConstant(m.kindOf(a), "Type") && t.Args[0].Op != api.YCon {
			return api.Core{}, false
		}
		made, t = at(made, a), put(t.Args[1], []api.Type{a})
	}
	for ; t.Op == api.YImp; t = t.Args[1] {
		a, b, isEquation := partsOf(t.Args[0], "~")
		if isEquation && !types.Same(a, b) {
			return api.Core{}, false
		}
		if isEquation {
			made = api.Core{Op: api.CQApp, Args: []api.Core{made}, Co: []api.Co{{Op: api.ORefl, Types: []api.Type{a}}}}
		} else {
			made = app(made, m.term(t.Args[0], depth-1))
		}
	}
	l, _, _ := types.Arguments(t)
	for _, a := range l {
		made = app(made, m.term(a, depth-1))
	}
	return made, true
}

func (m *maker) dictionary(t api.Type, depth int) api.Core {
	if c, found := m.variable(t); found {
		return c
	}
	head, args, _ := types.Spine(t)
	made := at(con(head.S+"%"), args...)
	for _, c := range m.env.Classes {
		if c.Name != head.S {
			continue
		}
		for _, s := range c.Supers {
			made = app(made, m.term(put(s, args), depth-1))
		}
		for _, s := range c.Sigs {
			made = app(made, m.term(put(s.Type, args), depth-1))
		}
	}
	return made
}

func (m *maker) let(t api.Type, depth int) api.Core {
	made := api.Core{Op: api.CLet}
	for range m.Intn(3) {
		made.Types = append(made.Types, m.valued(1))
	}
	in := *m
	for _, t := range made.Types {
		in.addVar(t)
	}
	for _, t := range made.Types {
		made.Args = append(made.Args, in.term(t, depth-1))
	}
	made.Args = append(made.Args, in.term(t, depth-1))
	return made
}

func (m *maker) cases(t api.Type, depth int) api.Core {
	of := []api.Type{named("Int"), named("Bool"), named("Some"), named("Hidden"), named("Poly"), applied(named("List"), m.typ(star(), 1)), applied(named("Vec"), m.typ(star(), 1), m.typ(named("Nat"), 1)), applied(named("Is"), m.typ(star(), 1), m.typ(star(), 1)), applied(named("Both"), m.typ(star(), 1)), m.constraint(1), named("Void")}[m.Intn(11)]
	made := api.Core{Op: api.CCase, Types: []api.Type{t}, Args: []api.Core{m.term(of, depth-1)}}
	in := *m
	in.addVar(of)
	head, args, _ := types.Spine(of)
	if head.S == "Int" {
		for n := range m.Intn(3) {
			made.Alts = append(made.Alts, api.CoreAlt{Op: api.AInt, N: n - 1, Body: in.term(t, depth-1)})
		}
		made.Alts = append(made.Alts, api.CoreAlt{Op: api.AAny, Body: in.term(t, depth-1)})
		return made
	}
	names := []string{head.S + "%"}
	for _, d := range m.env.Data {
		if d.Name == head.S {
			names = append([]string{}, d.Cons...)
		}
	}
	m.Shuffle(len(names), func(i, j int) { names[i], names[j] = names[j], names[i] })
	o := &oracle{env: m.env}
	for i, name := range names {
		if i == len(names)-1 && m.Intn(4) == 0 {
			made.Alts = append(made.Alts, api.CoreAlt{Op: api.AAny, Body: in.term(t, depth-1)})
			break
		}
		made.Alts = append(made.Alts, api.CoreAlt{Op: api.ACon, S: name, Body: in.opened(o.constructorType(name), args, t, depth-1)})
	}
	return made
}

// opened makes the body of an alternative.
func (m *maker) opened(c api.Type, args []api.Type, t api.Type, depth int) api.Core {
	in := *m
	for _, a := range args {
		c = put(c.Args[1], []api.Type{a})
	}
	for c.Op == api.YAll {
		in.addKind(c.Args[0])
		c, t = c.Args[1], up(t)
	}
	for ; c.Op == api.YImp; c = c.Args[1] {
		if a, b, isEquation := partsOf(c.Args[0], "~"); isEquation {
			in.addPair(a, b)
		} else {
			in.addVar(c.Args[0])
		}
	}
	l, _, _ := types.Arguments(c)
	for _, a := range l {
		in.addVar(a)
	}
	return in.term(t, depth)
}

// coTo makes a coercion to a type, and returns the type it is from.
func (m *maker) coTo(t api.Type, depth int) (api.Co, api.Type) {
	refl := api.Co{Op: api.ORefl, Types: []api.Type{t}}
	if depth <= 0 {
		return refl, t
	}
	for i := range m.cos {
		e := m.cos[len(m.cos)-1-i]
		if v := (api.Co{Op: api.OVar, N: i}); types.Same(e.Right, t) && m.Intn(2) == 0 {
			return v, e.Left
		} else if types.Same(e.Left, t) && m.Intn(2) == 0 {
			return api.Co{Op: api.OSym, Args: []api.Co{v}}, e.Right
		}
	}
	k := m.kindOf(t)
	in := func(t api.Type) (api.Co, api.Type) { return m.coTo(t, depth-1) }
	switch n := m.Intn(8); {
	case n == 0:
		o, between := in(t)
		p, from := in(between)
		return api.Co{Op: api.OTrans, Args: []api.Co{p, o}}, from
	case n == 1 && types.Same(k, star()):
		list := applied(named("List"), t)
		return api.Co{Op: api.OAxiom, S: "Elem", Types: []api.Type{list}}, applied(named("Elem"), list)
	case n == 2 && types.Same(k, star()):
		o, from := in(t)
		return api.Co{Op: api.ORight, Args: []api.Co{{Op: api.OApp, Args: []api.Co{{Op: api.ORefl, Types: []api.Type{named("List")}}, o}}}}, from
	case n == 3 && types.Same(k, arrow(star(), star())):
		o, from := in(t)
		p, _ := in(named("Int"))
		whole := api.Co{Op: api.OApp, Args: []api.Co{o, p}}
		a, b := m.sides(whole)
		if (&oracle{env: m.env}).isFamilyType(a) || (&oracle{env: m.env}).isFamilyType(b) {
			return refl, t
		}
		return api.Co{Op: api.OLeft, Args: []api.Co{whole}}, from
	case n == 4 && types.Same(k, named("Nat")):
		return api.Co{Op: api.OAxiom, S: "Plus", Types: []api.Type{named("'Z"), t}}, applied(named("Plus"), named("'Z"), t)
	case t.Op == api.YApp:
		return m.coOfParts(t, in, refl)
	case t.Op == api.YAll:
		inner := *m
		inner.addKind(t.Args[0])
		o, from := inner.coTo(t.Args[1], depth-1)
		return api.Co{Op: api.OAll, Types: t.Args[:1], Args: []api.Co{o}}, forall(t.Args[0], from)
	case t.Op == api.YImp:
		o, c := in(t.Args[0])
		p, from := in(t.Args[1])
		return api.Co{Op: api.OImp, Args: []api.Co{o, p}}, imply(c, from)
	}
	return refl, t
}

// coOfParts looks into an application, as far as its parts have kinds.
func (m *maker) coOfParts(t api.Type, in func(t api.Type) (api.Co, api.Type), refl api.Co) (api.Co, api.Type) {
	head, args, _ := types.Spine(t)
	if isConstant(head, "~") {
		return refl, t
	}
	if n := (&oracle{env: m.env}).arity(head.S); head.Op == api.YCon && n >= 0 {
		if n != len(args) {
			return refl, t
		}
		made, from := api.Co{Op: api.OFam, S: head.S}, head
		for _, a := range args {
			o, f := in(a)
			made.Args, from = append(made.Args, o), applied(from, f)
		}
		return made, from
	}
	if _, e := kind.Kind(m.env, nil, nil, m.kinds, t.Args[0]); e != api.OK || isConstant(head, "Proxy") {
		return refl, t
	}
	o, f := in(t.Args[0])
	p, a := in(t.Args[1])
	return api.Co{Op: api.OApp, Args: []api.Co{o, p}}, applied(f, a)
}
