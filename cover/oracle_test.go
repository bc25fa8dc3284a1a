package cover

import (
	"slices"

	"damask/api"
)

// oracle finds out by unification what values there are: rigid variables are variables here, too. Types have no families and no foralls.
type oracle struct {
	env    api.Env
	became map[int]*term // what variables have become; the rigid ones have their numbers
	next   int
}

// term is a constant, a variable, or an application.
type term struct {
	constant string
	variable int
	f, a     *term
}

func newOracle(e api.Env) *oracle { return &oracle{env: e, became: map[int]*term{}, next: 1000} }

func (o *oracle) term(t api.Type, context []*term) *term {
	switch t.Op {
	case api.YCon:
		return &term{constant: t.S}
	case api.YRigid:
		return &term{variable: t.N + 1}
	case api.YVar:
		return context[len(context)-1-t.N]
	case api.YApp:
		return &term{f: o.term(t.Args[0], context), a: o.term(t.Args[1], context)}
	}
	panic("no such type here")
}

func (o *oracle) resolve(t *term) *term {
	for t.variable > 0 && o.became[t.variable] != nil {
		t = o.became[t.variable]
	}
	return t
}

func (o *oracle) occurs(v int, t *term) bool {
	t = o.resolve(t)
	return t.variable == v && v > 0 || t.f != nil && (o.occurs(v, t.f) || o.occurs(v, t.a))
}

func (o *oracle) unify(a, b *term) bool {
	a, b = o.resolve(a), o.resolve(b)
	switch {
	case a.variable > 0 && a.variable == b.variable:
		return true
	case a.variable > 0:
		if o.occurs(a.variable, b) {
			return false
		}
		o.became[a.variable] = b
		return true
	case b.variable > 0:
		return o.unify(b, a)
	case a.f != nil && b.f != nil:
		return o.unify(a.f, b.f) && o.unify(a.a, b.a)
	}
	return a.f == nil && b.f == nil && a.constant == b.constant
}

// within does something, and takes back what variables have become then.
func (o *oracle) within(do func()) {
	before := map[int]*term{}
	for n, t := range o.became {
		before[n] = t
	}
	do()
	o.became = before
}

func (o *oracle) con(name string) *api.DataCon {
	i := slices.IndexFunc(o.env.Cons, func(c api.DataCon) bool { return c.Name == name })
	return &o.env.Cons[i]
}

// enter makes a value with a constructor have a type, and returns the types of its arguments.
func (o *oracle) enter(c *api.DataCon, t *term) ([]*term, bool) {
	var context []*term
	for range len(c.Univ) + len(c.Exis) {
		o.next++
		context = append(context, &term{variable: o.next})
	}
	whole := &term{constant: c.Data}
	for i := range c.Univ {
		whole = &term{f: whole, a: context[i]}
	}
	if !o.unify(whole, t) {
		return nil, false
	}
	for _, e := range c.Eqs {
		if !o.unify(o.term(e.Left, context), o.term(e.Right, context)) {
			return nil, false
		}
	}
	var args []*term
	for _, a := range c.Args {
		args = append(args, o.term(a, context))
	}
	return args, true
}

// cons returns the constructors of the data type that a type is.
func (o *oracle) cons(t *term) []string {
	t = o.resolve(t)
	for t.f != nil {
		t = o.resolve(t.f)
	}
	for _, d := range o.env.Data {
		if t.variable == 0 && d.Name == t.constant {
			return d.Cons
		}
	}
	return nil
}

// each tells a function of all values of types that have a size together.
func (o *oracle) each(types []*term, size int, value func(l []api.Pat)) {
	if len(types) == 0 {
		if size == 0 {
			value(nil)
		}
		return
	}
	first := func(n int, p api.Pat) {
		o.each(types[1:], size-n, func(l []api.Pat) { value(append([]api.Pat{p}, l...)) })
	}
	for n := 1; n <= size; n++ {
		t := o.resolve(types[0])
		cons := o.cons(t)
		switch {
		case t.constant == "Int" && n == 1:
			first(1, api.Pat{Op: api.PInt})
			first(1, api.Pat{Op: api.PInt, N: 1})
		case t.constant == "Int":
		case len(cons) == 0 && n == 1:
			first(1, api.Pat{Op: api.PWild})
		}
		for _, name := range cons {
			o.within(func() {
				if args, ok := o.enter(o.con(name), t); ok && len(args) < n {
					o.each(args, n-1, func(l []api.Pat) { first(n, api.Pat{Op: api.PCon, S: name, Args: l}) })
				}
			})
		}
	}
}

// values returns some too many, if there are too many.
func (o *oracle) values(t api.Type, size int) []api.Pat {
	var l []api.Pat
	for n := 1; n <= size; n++ {
		o.each([]*term{o.term(t, nil)}, n, func(values []api.Pat) { l = append(l, values...) })
	}
	return l
}

// heads returns the constructors that values of a type can have.
func (o *oracle) heads(t api.Type) []string {
	var l []string
	for _, name := range o.cons(o.term(t, nil)) {
		o.within(func() {
			if _, ok := o.enter(o.con(name), o.term(t, nil)); ok {
				l = append(l, name)
			}
		})
	}
	return l
}

// canBe reports whether values of types can match patterns of constructors.
func (o *oracle) canBe(types []api.Type, l []api.Pat) bool {
	var terms []*term
	for _, t := range types {
		terms = append(terms, o.term(t, nil))
	}
	return o.fit(terms, l)
}

func (o *oracle) fit(types []*term, l []api.Pat) bool {
	for i := range l {
		if l[i].Op != api.PCon {
			continue
		}
		args, ok := o.enter(o.con(l[i].S), types[i])
		if !ok || !o.fit(args, l[i].Args) {
			return false
		}
	}
	return true
}
