package decl

import (
	"slices"

	"damask/api"
	"damask/leave"
)

// heads are the arguments of instances as terms with numbers, so that terms that are the same have one number. Each instance has variables of its own.
type heads struct {
	numbers   map[term]int
	terms     []term
	variables int
	entered   []head
}

// term is a variable or a constant, or an application of terms.
type term struct {
	op, n              int
	s                  string
	function, argument int
}

// head is what an instance is for.
type head struct {
	class string
	args  []int
}

// enter leaves if the head of an instance is not apart from those before it.
func (h *heads) enter(in *api.Instance, class *api.Class) {
	made := head{class: in.Class}
	for _, a := range in.Args {
		made.args = append(made.args, h.number(a))
	}
	h.variables += len(in.Vars)
	for _, other := range h.entered {
		if other.class == in.Class && h.areTogether(other.args, made.args, class.Deps) {
			leave.With(api.ErrApart)
		}
	}
	h.entered = append(h.entered, made)
}

func (h *heads) number(t api.Type) int {
	key := term{op: t.Op, n: t.N, s: t.S}
	switch t.Op {
	case api.YVar:
		key.n += h.variables
	case api.YApp:
		key.function = h.number(t.Args[0])
		key.argument = h.number(t.Args[1])
	}
	n, found := h.numbers[key]
	if found {
		return n
	}
	if h.numbers == nil {
		h.numbers = map[term]int{}
	}
	n = len(h.terms)
	h.numbers[key] = n
	h.terms = append(h.terms, key)
	return n
}

// areTogether reports whether arguments unify, or those of a dependency without determining the others.
func (h *heads) areTogether(a, b []int, deps []api.ClassDep) bool {
	if unify, _ := h.unification(); unify(a, b) {
		return true
	}
	return slices.ContainsFunc(deps, func(d api.ClassDep) bool {
		unify, same := h.unification()
		return unify(chosen(a, d.From), chosen(b, d.From)) && !same(chosen(a, d.To), chosen(b, d.To))
	})
}

// unification returns a function that makes terms the same by the most general substitution, if there is one, and one that reports whether others are the same by it. Both know what a term has become. Terms are joined before their parts are, so that nothing is looked at twice; whether a term would be within itself is seen at the end.
func (h *heads) unification() (unify, same func(a, b []int) bool) {
	became := map[int]int{}
	last := func(n int) int {
		for next, found := became[n]; found; next, found = became[n] {
			n = next
		}
		return n
	}
	var join, equal func(a, b int) bool
	join = func(a, b int) bool {
		a, b = last(a), last(b)
		x, y := h.terms[a], h.terms[b]
		switch {
		case a == b:
			return true
		case y.op == api.YVar:
			became[b] = a
			return true
		case x.op == api.YVar || x.op == api.YApp && y.op == api.YApp:
			became[a] = b
			return x.op == api.YVar || join(x.function, y.function) && join(x.argument, y.argument)
		}
		return false
	}
	equal = func(a, b int) bool {
		a, b = last(a), last(b)
		x, y := h.terms[a], h.terms[b]
		if a != b && (x.op != api.YApp || y.op != api.YApp || !equal(x.function, y.function) || !equal(x.argument, y.argument)) {
			return false
		}
		if a != b {
			became[a] = b
		}
		return true
	}
	unify = func(a, b []int) bool { return all(a, b, join) && h.isFinite(a, last) }
	same = func(a, b []int) bool { return all(a, b, equal) }
	return unify, same
}

// isFinite reports whether none of some terms, or of their parts, is within itself.
func (h *heads) isFinite(l []int, last func(n int) int) bool {
	begun, done := map[int]bool{}, map[int]bool{}
	var finite func(n int) bool
	finite = func(n int) bool {
		n = last(n)
		if begun[n] {
			return done[n]
		}
		begun[n] = true
		t := h.terms[n]
		done[n] = t.op != api.YApp || finite(t.function) && finite(t.argument)
		return done[n]
	}
	return !slices.ContainsFunc(l, func(n int) bool { return !finite(n) })
}

// all reports whether a function holds for the items of two lists of one length, pair by pair.
func all(a, b []int, holds func(a, b int) bool) bool {
	for i := range a {
		if !holds(a[i], b[i]) {
			return false
		}
	}
	return true
}
