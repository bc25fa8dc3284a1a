package equate

import (
	"damask/anew"
	"damask/api"
	"damask/leave"
	"damask/nodes"
	"damask/rewrite"
	"damask/types"
)

// reader makes types resolved, and normal under rules.
type reader struct {
	*Worker
	rules []api.Eq
}

func (r *reader) normal(t api.Type) api.Type {
	reducer := rewrite.Reducer{Step: r.step}
	made, _ := reducer.Normal(r.Resolve(t))
	return made
}

// step is one by an equation of a family, or else by a rule.
func (r *reader) step(t api.Type) (api.Type, bool) {
	if next, ok := r.known.Step(t); ok {
		return next, true
	}
	for i := range r.rules {
		if types.Same(r.rules[i].Left, t) {
			return anew.Type(&r.rules[i].Right), true
		}
	}
	return api.Type{}, false
}

// finding is what the equations that are given in an implication come to.
type finding struct {
	rules      []api.Eq
	impossible bool
	taken      int // how many equations were taken out of the queue
}

// finder makes rules of equations, under the rules that there are so far.
type finder struct {
	reader
	queue      queue[api.Eq]
	impossible bool
}

// find makes the rules of an implication, if there are few enough equations to take out.
func (w *Worker) find(imp, most int) finding {
	f := &finder{reader: reader{Worker: w}, queue: queue[api.Eq]{rest: w.Equations(imp)}}
	taken := 0
	for e := range f.queue.all() {
		if taken++; taken > most {
			leave.With(api.ErrFuel)
		}
		f.take(e)
	}
	return finding{f.rules, f.impossible, taken}
}

func (f *finder) take(e api.Eq) {
	walk := f.normal
	a, b := walk(e.Left), walk(e.Right)
	switch {
	case types.Same(a, b):
	case f.rank(a) > 0 || f.rank(b) > 0:
		f.direct(a, b)
	case a.Op == api.YApp && b.Op == api.YApp:
		f.queue.toFront(api.Eq{Left: a.Args[0], Right: b.Args[0]}, api.Eq{Left: a.Args[1], Right: b.Args[1]})
	case f.known.Clash(a, b):
		f.impossible = true
	}
}

// rank says how much a type is wanted as the left side of a rule.
func (f *finder) rank(t api.Type) int {
	switch {
	case t.Op == api.YRigid:
		return 2
	case f.known.Of(&t) != nil:
		return 1
	}
	return 0
}

// direct lets the side with the greater rank lead to the other one. By types.Order the later one of two rigid variables is that with the greater number.
func (f *finder) direct(a, b api.Type) {
	order := f.rank(a) - f.rank(b)
	if order == 0 {
		order = leave.Must(types.Order(a, b))
	}
	if order < 0 {
		a, b = b, a
	}
	f.enter(api.Eq{Left: a, Right: b})
}

// enter adds a rule. Those before it in which it can make a step are equations again.
func (f *finder) enter(rule api.Eq) {
	if occurs(rule.Left, rule.Right) {
		f.impossible = f.impossible || f.standsOutside(rule.Left, rule.Right)
		return
	}
	var kept, again []api.Eq
	for _, r := range f.rules {
		if occurs(rule.Left, r.Left) || occurs(rule.Left, r.Right) {
			again = append(again, r)
		} else {
			kept = append(kept, r)
		}
	}
	f.rules = append(kept, rule)
	f.queue.toFront(again...)
}

// occurs reports whether a type without free variables is a part of another one.
func occurs(part, t api.Type) bool {
	found := false
	nodes.Visit(t, func(node api.Type, _ int) { found = found || types.Same(node, part) })
	return found
}

// standsOutside reports whether a type is a part of another one that is within no family type: then this one never becomes the same as its part.
func (f *finder) standsOutside(part, t api.Type) bool {
	if types.Same(part, t) {
		return true
	}
	if f.known.Of(&t) != nil {
		return false
	}
	for _, a := range t.Args {
		if f.standsOutside(part, a) {
			return true
		}
	}
	return false
}
