package family

import (
	"damask/api"
	"damask/types"
)

// place is a part of a type: which of the Args lead to it.
type place []int

// places returns all parts of a type, each before its own parts.
func places(t api.Type) []place {
	l := []place{nil}
	for i, a := range t.Args {
		for _, p := range places(a) {
			l = append(l, append(place{i}, p...))
		}
	}
	return l
}

func (p place) in(t api.Type) api.Type {
	for _, i := range p {
		t = t.Args[i]
	}
	return t
}

// with returns a type with another part at this place.
func (p place) with(t, part api.Type) api.Type {
	if len(p) == 0 {
		return part
	}
	made := t
	made.Args = append([]api.Type{}, t.Args...)
	made.Args[p[0]] = p[1:].with(t.Args[p[0]], part)
	return made
}

func (p place) isIn(q place) bool {
	if len(p) <= len(q) {
		return false
	}
	for i := range q {
		if p[i] != q[i] {
			return false
		}
	}
	return true
}

// steps returns the places of a type where there is a step, with what there is then.
func (m *maker) steps(t api.Type) ([]place, []api.Type) {
	var l []place
	var became []api.Type
	for _, p := range places(t) {
		part := p.in(t)
		f := m.familyOf(part)
		if f == nil {
			continue
		}
		_, args, _ := types.Spine(part)
		if next, _, e := Step(m.env, f.Name, args); e != api.ErrNone {
			l, became = append(l, p), append(became, next)
		}
	}
	return l, became
}

// slowly finds the normal form as the document says it: at each step all places are looked at anew. choose is told the places that have a step, and returns one of them.
func (m *maker) slowly(t api.Type, most int, choose func(l []place) int) (api.Type, int, api.Errno) {
	for n := 0; ; n++ {
		l, became := m.steps(t)
		if len(l) == 0 {
			return t, n, api.OK
		}
		if n == most {
			return api.Type{}, 0, api.ErrFuel
		}
		i := choose(l)
		t = l[i].with(t, became[i])
		if types.Check(t) != api.OK {
			return api.Type{}, 0, api.ErrFull
		}
	}
}

// innermost returns the leftmost of those places in which no other one is.
func innermost(l []place) int {
	for i, p := range l {
		inner := true
		for _, q := range l {
			inner = inner && !q.isIn(p)
		}
		if inner {
			return i
		}
	}
	return -1
}

// outlines of a type are what it has at the places that are not within something open.
func (m *maker) outline(t api.Type) map[string]string {
	found := map[string]string{}
	var walk func(t api.Type, at string)
	walk = func(t api.Type, at string) {
		isFamily := false
		for _, f := range m.env.Families {
			isFamily = isFamily || t.Op == api.YCon && t.S == f.Name
		}
		switch {
		case isFamily || m.familyOf(t) != nil || t.Op == api.YMeta || t.Op == api.YRigid || t.Op == api.YVar:
			return
		case t.Op == api.YCon:
			found[at] = "constant " + t.S
		case t.Op == api.YApp:
			found[at] = "application"
			walk(t.Args[0], at+"f")
			walk(t.Args[1], at+"a")
		default:
			found[at] = map[int]string{api.YAll: "forall", api.YImp: "implication"}[t.Op]
		}
	}
	walk(t, "")
	return found
}

// clashes holds the outlines of two types against each other.
func (m *maker) clashes(t, u api.Type) bool {
	other := m.outline(u)
	for at, what := range m.outline(t) {
		if there, both := other[at]; both && there != what {
			return true
		}
	}
	return false
}

// unlike reports whether arguments are apart from an equation: from its left sides themselves, or by two types that one variable would get.
func (m *maker) unlike(a api.Axiom, args []api.Type) bool {
	got := map[int][]api.Type{}
	var walk func(left, t api.Type)
	walk = func(left, t api.Type) {
		switch {
		case left.Op == api.YVar:
			got[left.N] = append(got[left.N], t)
		case left.Op == api.YApp && t.Op == api.YApp && m.familyOf(t) == nil:
			walk(left.Args[0], t.Args[0])
			walk(left.Args[1], t.Args[1])
		}
	}
	for i, left := range a.Left {
		if m.clashes(left, args[i]) {
			return true
		}
		walk(left, args[i])
	}
	for _, l := range got {
		for _, t := range l {
			for _, u := range l {
				if m.clashes(t, u) {
					return true
				}
			}
		}
	}
	return false
}
