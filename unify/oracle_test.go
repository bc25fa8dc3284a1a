package unify

import (
	"slices"

	"damask/api"
	"damask/family"
	"damask/kind"
	"damask/leave"
	"damask/types"
)

// oracle does what chapter 9 says, word by word: it keeps nothing that it has found, and asks the layers below alone.
type oracle struct {
	env          api.Env
	p            api.Problem
	imp          int
	taken, pairs int
	left         []api.Want
	passed       bool // an equation was passed over
}

func newOracle(env api.Env, p api.Problem, imp int) *oracle {
	p.Metas, p.Rigids = slices.Clone(p.Metas), slices.Clone(p.Rigids)
	return &oracle{env: env, p: p, imp: imp}
}

func (o *oracle) chain(imp int) []api.Imp {
	if imp < 0 {
		return nil
	}
	return append(o.chain(o.p.Imps[imp].Parent), o.p.Imps[imp])
}

func sidesOf(c api.Type) (api.Type, api.Type, bool) {
	head, l, e := types.Spine(c)
	if e != api.OK || len(l) != 2 || !types.Same(head, con("~")) {
		return api.Type{}, api.Type{}, false
	}
	return l[0], l[1], true
}

func (o *oracle) resolve(t api.Type) api.Type { return leave.Must(types.Resolve(o.p.Metas, t)) }

func (o *oracle) isFamilyType(t api.Type) bool {
	head, l, _ := types.Spine(t)
	for _, f := range o.env.Families {
		if types.Same(head, con(f.Name)) {
			return f.Arity == len(l)
		}
	}
	return false
}

// step makes the step at the innermost place, the leftmost one of several.
func (o *oracle) step(t api.Type, rules []api.Eq) (api.Type, bool) {
	for i := range t.Args {
		if part, ok := o.step(t.Args[i], rules); ok {
			made := api.Type{Op: t.Op, Args: slices.Clone(t.Args)}
			made.Args[i] = part
			return made, true
		}
	}
	if !o.isFamilyType(t) && t.Op != api.YRigid {
		return t, false
	}
	if head, l, _ := types.Spine(t); t.Op != api.YRigid {
		next, _, e := family.Step(o.env, head.S, l)
		if e != api.ErrNone {
			return leave.Must(next, e), true
		}
	}
	for _, r := range rules {
		if types.Same(t, r.Left) {
			return r.Right, true
		}
	}
	return t, false
}

func (o *oracle) normal(t api.Type, rules []api.Eq) api.Type {
	t = o.resolve(t)
	for n := 0; ; n++ {
		next, ok := o.step(t, rules)
		if !ok {
			return t
		}
		if n == 1000 {
			leave.With(api.ErrFuel)
		}
		if types.Check(next) != api.OK {
			leave.With(api.ErrFull)
		}
		t = next
	}
}

func isPart(part, t api.Type) bool {
	return types.Same(part, t) || slices.ContainsFunc(t.Args, func(a api.Type) bool { return isPart(part, a) })
}

func (o *oracle) isOutside(part, t api.Type) bool {
	return types.Same(part, t) || !o.isFamilyType(t) && slices.ContainsFunc(t.Args, func(a api.Type) bool { return o.isOutside(part, a) })
}

func (o *oracle) rules() (rules []api.Eq, impossible bool) {
	var queue []api.Eq
	for _, i := range o.chain(o.imp) {
		for _, c := range i.Given {
			if a, b, ok := sidesOf(c); ok {
				queue = append(queue, api.Eq{Left: a, Right: b})
			}
		}
	}
	for len(queue) > 0 {
		if o.taken++; o.taken > 1000 {
			leave.With(api.ErrFuel)
		}
		a := o.normal(queue[0].Left, rules)
		b := o.normal(queue[0].Right, rules)
		queue = queue[1:]
		switch left, other, ok := o.directed(a, b); {
		case types.Same(a, b):
		case ok && isPart(left, other):
			if o.isOutside(left, other) {
				impossible = true
			} else {
				o.passed = true
			}
		case ok:
			var again []api.Eq
			for _, r := range rules {
				if isPart(left, r.Left) || isPart(left, r.Right) {
					again = append(again, r)
				}
			}
			rules = slices.DeleteFunc(rules, func(r api.Eq) bool { return isPart(left, r.Left) || isPart(left, r.Right) })
			rules = append(rules, api.Eq{Left: left, Right: other})
			queue = append(again, queue...)
		case a.Op == api.YApp && b.Op == api.YApp:
			queue = append([]api.Eq{{Left: a.Args[0], Right: b.Args[0]}, {Left: a.Args[1], Right: b.Args[1]}}, queue...)
		case leave.Must(family.Clash(o.env, a, b)):
			impossible = true
		default:
			o.passed = true
		}
	}
	return rules, impossible
}

// directed returns which of two sides is left, and the other one.
func (o *oracle) directed(a, b api.Type) (api.Type, api.Type, bool) {
	order, _ := types.Order(a, b)
	switch {
	case a.Op == api.YRigid && b.Op == api.YRigid:
		return []api.Type{a, b}[fromBool(a.N < b.N)], []api.Type{b, a}[fromBool(a.N < b.N)], true
	case a.Op == api.YRigid:
		return a, b, true
	case b.Op == api.YRigid:
		return b, a, true
	case o.isFamilyType(a) && o.isFamilyType(b):
		return []api.Type{a, b}[fromBool(order < 0)], []api.Type{b, a}[fromBool(order < 0)], true
	case o.isFamilyType(a):
		return a, b, true
	case o.isFamilyType(b):
		return b, a, true
	}
	return a, b, false
}

func fromBool(b bool) int { return map[bool]int{true: 1}[b] }

func (o *oracle) touchable(n int) bool {
	for i, imp := range o.chain(o.imp) {
		for _, c := range imp.Given {
			if _, _, ok := sidesOf(c); ok && i+1 > o.p.Metas[n].Level {
				return false
			}
		}
	}
	return !o.p.Metas[n].Solved
}

func (o *oracle) unify(a, b api.Type) {
	if o.pairs++; o.pairs > 1000 {
		leave.With(api.ErrFuel)
	}
	rules, _ := o.rules()
	a = o.normal(a, rules)
	b = o.normal(b, rules)
	switch {
	case types.Same(a, b):
	case a.Op == api.YMeta && b.Op == api.YMeta:
		first, other := a, b
		if x, y := o.p.Metas[a.N].Level, o.p.Metas[b.N].Level; x < y || x == y && a.N < b.N {
			first, other = b, a
		}
		if !o.touchable(first.N) {
			first, other = other, first
		}
		o.become(first.N, other, a, b)
	case a.Op == api.YMeta:
		o.become(a.N, b, a, b)
	case b.Op == api.YMeta:
		o.become(b.N, a, a, b)
	case a.Op == api.YApp && b.Op == api.YApp && !o.isFamilyType(a) && !o.isFamilyType(b), a.Op == api.YImp && b.Op == api.YImp:
		o.unify(a.Args[0], b.Args[0])
		o.unify(a.Args[1], b.Args[1])
	case a.Op == api.YAll && b.Op == api.YAll:
		o.unify(a.Args[0], b.Args[0])
		r := o.rigid(a.Args[0])
		o.unify(leave.Must(types.Put(a.Args[1], []api.Type{r})), leave.Must(types.Put(b.Args[1], []api.Type{r})))
	default:
		o.leave(a, b)
	}
}

func (o *oracle) leave(a, b api.Type) {
	o.left = append(o.left, api.Want{Imp: o.imp, Type: app(app(con("~"), a), b)})
}

func (o *oracle) rigid(k api.Type) api.Type {
	level := 0
	for _, m := range o.p.Metas {
		level = max(level, m.Level)
	}
	for _, r := range o.p.Rigids {
		level = max(level, r.Level)
	}
	if len(o.p.Rigids) == 400 || level+1 > 400 {
		leave.With(api.ErrFull)
	}
	o.p.Rigids = append(o.p.Rigids, api.Rigid{Kind: o.resolve(k), Level: level + 1})
	return rigid(len(o.p.Rigids) - 1)
}

func (o *oracle) become(m int, t, a, b api.Type) {
	if !o.can(m, t) {
		o.leave(a, b)
		return
	}
	o.p.Metas[m].Solved, o.p.Metas[m].Value = true, t
	for _, n := range o.reached(t) {
		o.p.Metas[n].Level = min(o.p.Metas[n].Level, o.p.Metas[m].Level)
	}
}

func (o *oracle) can(m int, t api.Type) bool {
	if !o.touchable(m) || isPart(meta(m), t) || t.Op == api.YAll || t.Op == api.YImp {
		return false
	}
	all := []api.Type{t}
	for _, n := range o.reached(t) {
		all = append(all, o.resolve(o.p.Metas[n].Kind))
	}
	for _, x := range all {
		l, _ := types.Rigids(x)
		for _, n := range l {
			if o.p.Rigids[n].Level > o.p.Metas[m].Level {
				return false
			}
		}
	}
	metas, rigids := slices.Clone(o.p.Metas), slices.Clone(o.p.Rigids)
	for n := range metas {
		metas[n].Kind = o.resolve(metas[n].Kind)
	}
	for n := range rigids {
		rigids[n].Kind = o.resolve(rigids[n].Kind)
	}
	return types.Same(leave.Must(kind.Kind(o.env, metas, rigids, nil, t)), metas[m].Kind)
}

// reached are the metavariables in a type, in their Kinds, and so on.
func (o *oracle) reached(t api.Type) []int {
	found, _ := types.Metas(t)
	for i := 0; i < len(found); i++ {
		more, _ := types.Metas(o.resolve(o.p.Metas[found[i]].Kind))
		for _, n := range more {
			if !slices.Contains(found, n) {
				found = append(found, n)
			}
		}
	}
	return found
}
