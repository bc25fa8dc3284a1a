package core

import (
	"strings"

	"damask/api"
	"damask/decl"
	"damask/family"
	"damask/kind"
	"damask/types"
)

// oracle finds types in another way: each type variable that is bound becomes a rigid variable of its own, so that nothing is ever shifted, and what is in a constructor is read off its type.
type oracle struct {
	env    api.Env
	sigs   []api.Sig
	rigids []api.Rigid
}

// scope is what is bound; its types have no free variables.
type scope struct {
	types []api.Type
	cos   []api.Eq
	vars  []api.Type
}

// refusal ends the search.
type refusal struct{ full bool }

func refuse(when bool) {
	if when {
		panic(refusal{})
	}
}

// answer returns what a search finds, or the error it comes to.
func answer[T any](search func() T) (result T, e api.Errno) {
	defer func() {
		if r, ok := recover().(refusal); ok {
			e = api.ErrCore
			if r.full {
				e = api.ErrFull
			}
		}
	}()
	return search(), api.OK
}

func ok[T any](v T, e api.Errno) T {
	if e != api.OK {
		panic(refusal{e == api.ErrFull})
	}
	return v
}

func (o *oracle) kindOf(t api.Type) api.Type { return ok(kind.Kind(o.env, nil, o.rigids, nil, t)) }

// open takes a type out of its context.
func (s scope) open(t api.Type) api.Type {
	free := ok(types.Free(t))
	refuse(len(free) > 0 && free[len(free)-1] >= len(s.types))
	return ok(types.Put(t, s.types))
}

func (o *oracle) newRigid(k api.Type) api.Type {
	o.rigids = append(o.rigids, api.Rigid{Kind: k})
	return api.Type{Op: api.YRigid, N: len(o.rigids) - 1}
}

func (s scope) plusType(t api.Type) scope {
	s.types = append(append([]api.Type{}, s.types...), t)
	return s
}

func (s scope) plusPair(a, b api.Type) scope {
	s.cos = append(append([]api.Eq{}, s.cos...), api.Eq{Left: a, Right: b})
	return s
}

func (s scope) plusVar(t api.Type) scope {
	s.vars = append(append([]api.Type{}, s.vars...), t)
	return s
}

// surrounded is the scope of a whole context.
func (o *oracle) surrounded(kinds []api.Type, cos []api.Eq, vars []api.Type) scope {
	var s scope
	for _, k := range kinds {
		k = s.open(k)
		refuse(!isConstant(o.kindOf(k), "Type"))
		s = s.plusType(o.newRigid(k))
	}
	for _, e := range cos {
		a, b := s.open(e.Left), s.open(e.Right)
		refuse(!types.Same(o.kindOf(a), o.kindOf(b)))
		s = s.plusPair(a, b)
	}
	for _, t := range vars {
		s = s.plusVar(o.valued(s.open(t)))
	}
	return s
}

// closed puts a type back into a context.
func (s scope) closed(t api.Type) api.Type {
	var l []int
	for _, r := range s.types {
		l = append(l, r.N)
	}
	return ok(types.Bind(t, api.YRigid, l))
}

// valued wants a type of the kind Type, or a class constraint.
func (o *oracle) valued(t api.Type) api.Type {
	k := o.kindOf(t)
	refuse(!isConstant(k, "Type") && (!isConstant(k, "Constraint") || o.classOf(t) == nil))
	return t
}

func (o *oracle) classOf(t api.Type) *api.Class {
	head, args, _ := types.Spine(t)
	for i := range o.env.Classes {
		if c := &o.env.Classes[i]; head.Op == api.YCon && c.Name == head.S {
			if len(args) != len(c.Vars) {
				return nil
			}
			return c
		}
	}
	return nil
}

func (o *oracle) dataOf(name string) *api.DataType {
	for i := range o.env.Data {
		if o.env.Data[i].Name == name {
			return &o.env.Data[i]
		}
	}
	return nil
}

// constructorType is the type of a constructor, also of a new type or of a class.
func (o *oracle) constructorType(name string) api.Type {
	if bare, found := strings.CutSuffix(name, "%"); found {
		for _, c := range o.env.Classes {
			if c.Name != bare {
				continue
			}
			var l []api.Type
			for _, s := range c.Sigs {
				l = append(l, s.Type)
			}
			var vars []api.Type
			for i := range c.Vars {
				vars = append(vars, api.Type{Op: api.YVar, N: len(c.Vars) - 1 - i})
			}
			t := ok(types.Apply(named(bare), vars))
			for i := len(l) - 1; i >= 0; i-- {
				t = ok(types.Fun(l[i:i+1], t))
			}
			for i := len(c.Supers) - 1; i >= 0; i-- {
				t = api.Type{Op: api.YImp, Args: []api.Type{c.Supers[i], t}}
			}
			for i := len(c.Vars) - 1; i >= 0; i-- {
				t = api.Type{Op: api.YAll, Args: []api.Type{c.Vars[i], t}}
			}
			return proper(t)
		}
		refuse(true)
	}
	return ok(decl.ConType(o.env, name))
}

func proper(t api.Type) api.Type {
	if types.Check(t) != api.OK {
		panic(refusal{full: true})
	}
	return t
}

func arrow(a, b api.Type) api.Type {
	return proper(api.Type{Op: api.YApp, Args: []api.Type{{Op: api.YApp, Args: []api.Type{named("->"), a}}, b}})
}

func imply(a, b api.Type) api.Type {
	return proper(api.Type{Op: api.YImp, Args: []api.Type{a, b}})
}

func equal(a, b api.Type) api.Type {
	return proper(api.Type{Op: api.YApp, Args: []api.Type{{Op: api.YApp, Args: []api.Type{named("~"), a}}, b}})
}

func (o *oracle) typeOf(s scope, c api.Core) api.Type {
	switch c.Op {
	case api.CVar:
		refuse(c.N >= len(s.vars))
		return s.vars[len(s.vars)-1-c.N]
	case api.CGlob:
		for _, g := range o.sigs {
			if g.Name == c.S {
				return g.Type
			}
		}
	case api.CInt:
		return named("Int")
	case api.CCon:
		t := o.constructorType(c.S)
		for _, k := range o.env.Cons {
			refuse(k.Name == c.S && o.dataOf(k.Data).New)
		}
		return t
	case api.CLam:
		t := o.valued(s.open(c.Types[0]))
		body := o.typeOf(s.plusVar(t), c.Args[0])
		if isConstant(o.kindOf(t), "Type") {
			return arrow(t, body)
		}
		return imply(t, body)
	case api.CApp:
		f, a := o.typeOf(s, c.Args[0]), o.typeOf(s, c.Args[1])
		if f.Op == api.YImp {
			refuse(o.classOf(f.Args[0]) == nil || !types.Same(a, f.Args[0]))
			return f.Args[1]
		}
		head, args, _ := types.Spine(f)
		refuse(!isConstant(head, "->") || len(args) != 2 || !types.Same(args[0], a))
		return args[1]
	case api.CTLam:
		k := s.open(c.Types[0])
		refuse(!isConstant(o.kindOf(k), "Type"))
		r := o.newRigid(k)
		body := ok(types.Bind(o.typeOf(s.plusType(r), c.Args[0]), api.YRigid, []int{r.N}))
		return proper(api.Type{Op: api.YAll, Args: []api.Type{k, body}})
	case api.CTApp:
		f, t := o.typeOf(s, c.Args[0]), s.open(c.Types[0])
		refuse(f.Op != api.YAll || !types.Same(o.kindOf(t), f.Args[0]))
		return ok(types.Put(f.Args[1], []api.Type{t}))
	case api.CQLam:
		a, b := s.open(c.Types[0]), s.open(c.Types[1])
		refuse(!types.Same(o.kindOf(a), o.kindOf(b)))
		return imply(equal(a, b), o.typeOf(s.plusPair(a, b), c.Args[0]))
	case api.CQApp:
		f := o.typeOf(s, c.Args[0])
		sides := o.sides(s, c.Co[0])
		refuse(f.Op != api.YImp || !types.Same(f.Args[0], equal(sides.Left, sides.Right)))
		return f.Args[1]
	case api.CLet:
		for _, t := range c.Types {
			s = s.plusVar(o.valued(s.open(t)))
		}
		for i := range c.Types {
			refuse(!types.Same(o.typeOf(s, c.Args[i]), s.vars[len(s.vars)-len(c.Types)+i]))
		}
		return o.typeOf(s, c.Args[len(c.Types)])
	case api.CCase:
		return o.caseOf(s, c)
	case api.CCast:
		t, sides := o.typeOf(s, c.Args[0]), o.sides(s, c.Co[0])
		refuse(!types.Same(t, sides.Left))
		return sides.Right
	case api.CNew, api.COld:
		return o.newTypeOf(s, c)
	}
	panic(refusal{})
}

func (o *oracle) newTypeOf(s scope, c api.Core) api.Type {
	data := o.dataOf(c.S)
	refuse(data == nil || !data.New)
	con := o.constructorType(data.Cons[0])
	for _, t := range c.Types {
		t = s.open(t)
		refuse(con.Op != api.YAll || !types.Same(o.kindOf(t), con.Args[0]))
		con = ok(types.Put(con.Args[1], []api.Type{t}))
	}
	refuse(con.Op == api.YAll)
	field, whole := con.Args[0].Args[1], con.Args[1]
	if c.Op == api.COld {
		field, whole = whole, field
	}
	refuse(!types.Same(o.typeOf(s, c.Args[0]), field))
	return whole
}

func (o *oracle) caseOf(s scope, c api.Core) api.Type {
	of, result := o.typeOf(s, c.Args[0]), o.valued(s.open(c.Types[0]))
	head, args, _ := types.Spine(of)
	refuse(head.Op != api.YCon)
	var names []string
	open := head.S == "Int" && len(args) == 0
	if data := o.dataOf(head.S); data != nil {
		n, _, _ := kind.Arity(data.Kind)
		refuse(data.New || n != len(args))
		names = data.Cons
	} else {
		refuse(o.classOf(of) == nil)
		names = []string{head.S + "%"}
	}
	s = s.plusVar(of)
	done := map[string]bool{}
	numbers := map[int]bool{}
	all := false
	for _, a := range c.Alts {
		refuse(all)
		in := s
		switch a.Op {
		case api.AAny:
			all = true
		case api.AInt:
			refuse(!open || numbers[a.N])
			numbers[a.N] = true
		case api.ACon:
			known := false
			for _, name := range names {
				known = known || name == a.S
			}
			refuse(open || !known || done[a.S])
			done[a.S] = true
			in = o.opened(s, o.constructorType(a.S), args)
		}
		refuse(!types.Same(o.typeOf(in, a.Body), result))
	}
	refuse(!all && (open || len(done) < len(names)))
	return result
}

// opened binds what the type of a constructor says is in its values.
func (o *oracle) opened(s scope, t api.Type, args []api.Type) scope {
	for _, a := range args {
		t = ok(types.Put(t.Args[1], []api.Type{a}))
	}
	for ; t.Op == api.YAll; t = ok(types.Put(t.Args[1], s.types[len(s.types)-1:])) {
		s = s.plusType(o.newRigid(t.Args[0]))
	}
	for ; t.Op == api.YImp; t = t.Args[1] {
		head, l, _ := types.Spine(t.Args[0])
		if isConstant(head, "~") {
			s = s.plusPair(l[0], l[1])
		} else {
			s = s.plusVar(t.Args[0])
		}
	}
	l, _, _ := types.Arguments(t)
	for _, a := range l {
		s = s.plusVar(a)
	}
	return s
}

// oneKind wants that both sides have one.
func (o *oracle) oneKind(a, b api.Type) api.Eq {
	refuse(!types.Same(o.kindOf(proper(a)), o.kindOf(proper(b))))
	return api.Eq{Left: a, Right: b}
}

func (o *oracle) sides(s scope, c api.Co) api.Eq {
	var l []api.Eq
	if c.Op != api.OAll {
		for _, a := range c.Args {
			l = append(l, o.sides(s, a))
		}
	}
	pair := func(op int) api.Eq {
		a := api.Type{Op: op, Args: []api.Type{l[0].Left, l[1].Left}}
		return o.oneKind(a, api.Type{Op: op, Args: []api.Type{l[0].Right, l[1].Right}})
	}
	switch c.Op {
	case api.ORefl:
		t := s.open(c.Types[0])
		return o.oneKind(t, t)
	case api.OSym:
		return api.Eq{Left: l[0].Right, Right: l[0].Left}
	case api.OTrans:
		refuse(!types.Same(l[0].Right, l[1].Left))
		return o.oneKind(l[0].Left, l[1].Right)
	case api.OApp:
		return pair(api.YApp)
	case api.OImp:
		return pair(api.YImp)
	case api.OAll:
		k := s.open(c.Types[0])
		refuse(!isConstant(o.kindOf(k), "Type"))
		r := o.newRigid(k)
		in := o.sides(s.plusType(r), c.Args[0])
		bound := func(t api.Type) api.Type {
			return api.Type{Op: api.YAll, Args: []api.Type{k, ok(types.Bind(t, api.YRigid, []int{r.N}))}}
		}
		return o.oneKind(bound(in.Left), bound(in.Right))
	case api.OVar:
		refuse(c.N >= len(s.cos))
		return s.cos[len(s.cos)-1-c.N]
	case api.OAxiom:
		var l []api.Type
		for _, t := range c.Types {
			l = append(l, s.open(t))
		}
		after, n, e := family.Step(o.env, c.S, l)
		after = ok(after, e)
		before := ok(types.Apply(named(c.S), l))
		o.kindOf(before)
		refuse(n != c.N)
		return api.Eq{Left: before, Right: after}
	case api.OFam:
		refuse(o.arity(c.S) != len(c.Args))
		a, b := named(c.S), named(c.S)
		for _, e := range l {
			a, b = api.Type{Op: api.YApp, Args: []api.Type{a, e.Left}}, api.Type{Op: api.YApp, Args: []api.Type{b, e.Right}}
		}
		return o.oneKind(a, b)
	}
	a, b := l[0].Left, l[0].Right
	refuse(a.Op != api.YApp || b.Op != api.YApp || o.isFamilyType(a) || o.isFamilyType(b))
	f, x := o.oneKind(a.Args[0], b.Args[0]), o.oneKind(a.Args[1], b.Args[1])
	if c.Op == api.OLeft {
		return f
	}
	return x
}

// arity is that of a family, or -1.
func (o *oracle) arity(name string) int {
	for _, f := range o.env.Families {
		if f.Name == name {
			return f.Arity
		}
	}
	return -1
}

func (o *oracle) isFamilyType(t api.Type) bool {
	head, args, _ := types.Spine(t)
	return head.Op == api.YCon && o.arity(head.S) == len(args)
}
