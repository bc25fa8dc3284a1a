package solve

import (
	"slices"

	"damask/api"
	"damask/decl"
	"damask/leave"
	"damask/types"
	"damask/unify"
)

// oracle does what chapter 10 says, word by word: it keeps nothing that it has found, and asks the layers below alone.
type oracle struct {
	env    api.Env
	p      api.Problem
	looked int
}

func newOracle(env api.Env, p api.Problem) *oracle { return &oracle{env: env, p: p} }

func sidesOf(c api.Type) (api.Type, api.Type, bool) {
	head, l, e := types.Spine(c)
	if e != api.OK || len(l) != 2 || !types.Same(head, con("~")) {
		return api.Type{}, api.Type{}, false
	}
	return l[0], l[1], true
}

func (o *oracle) class(c api.Type) (api.Class, []api.Type, bool) {
	head, l, _ := types.Spine(c)
	for _, class := range o.env.Classes {
		if types.Same(head, con(class.Name)) {
			return class, l, len(l) == len(class.Vars)
		}
	}
	return api.Class{}, nil, false
}

func (o *oracle) normal(imp int, t api.Type) api.Type {
	return leave.Must(unify.Normal(o.env, o.p, imp, t))
}

func (o *oracle) unify(imp int, a, b api.Type) []api.Want {
	p, left, e := unify.Unify(o.env, o.p, imp, a, b)
	o.p = leave.Must(p, e)
	return left
}

func (o *oracle) chain(imp int) []api.Type {
	if imp < 0 {
		return nil
	}
	return append(o.chain(o.p.Imps[imp].Parent), o.p.Imps[imp].Given...)
}

func (o *oracle) given(imp int) []api.Type {
	var l []api.Type
	for _, g := range o.chain(imp) {
		if _, _, ok := o.class(g); ok {
			for _, c := range append(list(g), leave.Must(decl.Supers(o.env, g))...) {
				l = append(l, o.normal(imp, c))
			}
		}
	}
	return l
}

func (o *oracle) waits(imp int) bool {
	return slices.ContainsFunc(o.chain(imp), func(g api.Type) bool {
		if _, _, ok := sidesOf(g); !ok {
			return false
		}
		metas, _ := types.Metas(leave.Must(types.Resolve(o.p.Metas, g)))
		return len(metas) > 0
	})
}

func (o *oracle) look() {
	if o.looked++; o.looked > 20000 {
		leave.With(api.ErrFuel)
	}
}

func (o *oracle) become(w api.Want) []api.Want {
	o.look()
	a, b, isEquation := sidesOf(w.Type)
	if o.waits(w.Imp) {
		if isEquation && types.Same(o.normal(-1, a), o.normal(-1, b)) {
			return nil
		}
		return []api.Want{w}
	}
	if isEquation {
		return o.unify(w.Imp, a, b)
	}
	if _, _, ok := o.class(w.Type); !ok {
		return []api.Want{w}
	}
	c := o.normal(w.Imp, w.Type)
	given := o.given(w.Imp)
	class, args, _ := o.class(c)
	if slices.ContainsFunc(given, func(g api.Type) bool { return types.Same(g, c) }) {
		return nil
	}
	if l := leave.Must(decl.Instances(o.env, class.Name, args)); len(l) > 0 {
		in := o.env.Instances[l[0]]
		values, _ := o.matched(in, in.Args, args)
		var wants []api.Want
		for _, x := range in.Context {
			wants = append(wants, api.Want{Imp: w.Imp, Type: leave.Must(types.Put(x, values))})
		}
		return wants
	}
	for _, d := range class.Deps {
		o.improve(w.Imp, class, d, args, given)
	}
	return []api.Want{{Imp: w.Imp, Type: c}}
}

func (o *oracle) improve(imp int, class api.Class, d api.ClassDep, args, given []api.Type) {
	for _, g := range given {
		other, known, ok := o.class(g)
		if !ok || other.Name != class.Name || slices.ContainsFunc(d.From, func(i int) bool { return !types.Same(known[i], args[i]) }) {
			continue
		}
		for _, i := range d.To {
			o.unify(imp, known[i], args[i])
		}
	}
	for _, in := range o.env.Instances {
		var patterns, from []api.Type
		for _, i := range d.From {
			patterns, from = append(patterns, at(in.Args, i)), append(from, args[i])
		}
		if values, ok := o.matched(in, patterns, from); ok && in.Class == class.Name {
			for _, i := range d.To {
				o.unify(imp, leave.Must(types.Put(in.Args[i], values)), args[i])
			}
		}
	}
}

func at(l []api.Type, i int) api.Type {
	if i < len(l) {
		return l[i]
	}
	return con("None")
}

// matched matches the arguments of an instance, in which all free variables are those of the instance. What a variable that does not occur becomes is Type.
func (o *oracle) matched(in api.Instance, patterns, l []api.Type) ([]api.Type, bool) {
	values := slices.Repeat(list(con("Type")), len(in.Vars))
	found := map[int]bool{}
	var match func(p, t api.Type) bool
	match = func(p, t api.Type) bool {
		if p.Op == api.YVar {
			i := len(values) - 1 - p.N
			first := !found[i]
			found[i] = true
			if first {
				values[i] = t
			}
			return types.Same(values[i], t)
		}
		if p.Op == api.YApp && o.isFamilyType(t) {
			return false
		}
		return p.Op == t.Op && p.S == t.S && !slices.ContainsFunc([]int{0, 1}[:len(p.Args)], func(i int) bool { return !match(p.Args[i], t.Args[i]) })
	}
	for i := range patterns {
		if !match(patterns[i], l[i]) {
			return nil, false
		}
	}
	return values, true
}

func (o *oracle) isFamilyType(t api.Type) bool {
	head, l, _ := types.Spine(t)
	return slices.ContainsFunc(o.env.Families, func(f api.Family) bool { return types.Same(head, con(f.Name)) && f.Arity == len(l) })
}

// solve makes rounds until one changes nothing.
func (o *oracle) solve() {
	wants := o.p.Wants
	o.p.Wants = nil // they can have become too large, which layer 9 must not see
	for {
		var next []api.Want
		open, _ := Open(o.p)
		for _, w := range wants {
			next = append(next, o.become(w)...)
			if len(next) > 400 {
				leave.With(api.ErrFull)
			}
		}
		still, _ := Open(o.p)
		changed := len(open) != len(still) || len(wants) != len(next)
		for i := 0; i < len(next) && !changed; i++ {
			changed = !types.Same(o.resolved(wants[i].Type), o.resolved(next[i].Type)) || wants[i].Imp != next[i].Imp
		}
		wants = next
		if !changed {
			o.p.Wants = wants
			return
		}
	}
}

func (o *oracle) resolved(t api.Type) api.Type {
	x, e := types.Resolve(o.p.Metas, t)
	if e == api.ErrArg {
		e = api.ErrFull // it is too large as it is
	}
	return leave.Must(x, e)
}

func (o *oracle) holds(imp int, t api.Type) bool {
	o.look()
	if a, b, ok := sidesOf(t); ok {
		return leave.Must(unify.Holds(o.env, o.p, imp, a, b))
	}
	if _, _, ok := o.class(t); !ok {
		return false
	}
	c := o.normal(imp, t)
	if slices.ContainsFunc(o.given(imp), func(g api.Type) bool { return types.Same(g, c) }) {
		return true
	}
	class, args, _ := o.class(c)
	l := leave.Must(decl.Instances(o.env, class.Name, args))
	if len(l) == 0 {
		return false
	}
	in := o.env.Instances[l[0]]
	values, _ := o.matched(in, in.Args, args)
	for _, x := range in.Context {
		if !o.holds(imp, leave.Must(types.Put(x, values))) {
			return false
		}
	}
	return true
}
