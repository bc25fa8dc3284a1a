package decl

import (
	"slices"

	"damask/api"
	"damask/leave"
	"damask/types"
)

// constructors come into the environment when all of the data type are right, since none can be promoted in the types of the others.
func (b *builder) constructors(d *api.Decl) {
	data := b.data()
	var cons []api.DataCon
	for i := range d.Cons {
		c := b.constructor(data, &d.Cons[i])
		checkFields(&c, cons)
		cons = append(cons, c)
	}
	if data.New && (len(cons) != 1 || !IsPlain(cons[0]) || len(cons[0].Args) != 1) {
		leave.With(api.ErrForm)
	}
	for _, c := range cons {
		data.Cons = append(data.Cons, c.Name)
	}
	b.env.Cons = append(b.env.Cons, cons...)
}

func (b *builder) constructor(data *api.DataType, c *api.Con) api.DataCon {
	t := nameless(&c.Type, inContext())
	b.mustBeType(nil, t)
	kinds, constraints, rest := split(t)
	args, rest, _ := types.Arguments(rest)
	head, results, _ := types.Spine(rest)
	univ := parameters(data.Kind)
	if !isConstant(head, data.Name) || len(results) != len(univ) {
		leave.With(api.ErrForm)
	}
	p := newPlacing(len(univ), len(kinds), results)
	made := api.DataCon{Name: c.Name, Data: data.Name, Univ: univ, Exis: p.exis(kinds), Eqs: b.refined(p, univ, kinds, results), Fields: slices.Clone(c.Fields)}
	for _, c := range constraints {
		c = put(c, p.became)
		if l, ok := sides(c); ok {
			made.Eqs = append(made.Eqs, l)
		} else {
			made.Given = append(made.Given, c)
		}
	}
	for _, a := range args {
		made.Args = append(made.Args, put(a, p.became))
	}
	proper(conType(&made))
	return made
}

// placing says where the variables of a con's type stand in the context of its DataCon: in the place of the Univ variable that stands for one, or among the Exis.
type placing struct {
	univ   int
	all    int
	stood  map[int]int // the Univ variables that stand for variables
	became []api.Type
}

// newPlacing lets the first result that is a variable, and no other one, stand for it.
func newPlacing(univ, variables int, results []api.Type) placing {
	p := placing{univ: univ, stood: map[int]int{}}
	for i, r := range results {
		if r.Op != api.YVar {
			continue
		}
		if _, before := p.stood[variables-1-r.N]; !before {
			p.stood[variables-1-r.N] = i
		}
	}
	p.all = univ + variables - len(p.stood)
	exis := univ
	for v := range variables {
		place, found := p.stood[v]
		if !found {
			place = exis
			exis++
		}
		p.became = append(p.became, p.at(place))
	}
	return p
}

// at returns the variable at a place of the context.
func (p placing) at(place int) api.Type { return variable(p.all - 1 - place) }

// kind returns the kind of a variable in the context of all.
func (p placing) kind(kinds []api.Type, v int) api.Type { return put(kinds[v], p.became[:v]) }

// exis returns the kinds of the variables that no Univ variable stands for, each in the context of those before it.
func (p placing) exis(kinds []api.Type) []api.Type {
	var l []api.Type
	for v := range kinds {
		if _, found := p.stood[v]; found {
			continue
		}
		k, e := types.Shift(p.kind(kinds, v), p.univ+len(l)-p.all, 0)
		if e != api.OK {
			leave.With(api.ErrForm)
		}
		l = append(l, k)
	}
	return l
}

// refined returns the equations of the results that are no variables of their own; all results must have the kinds that the data type wants.
func (b *builder) refined(p placing, univ, kinds, results []api.Type) []api.Eq {
	var l []api.Eq
	for i, r := range results {
		var found api.Type
		v := len(kinds) - 1 - r.N
		if place, stands := p.stood[v]; r.Op == api.YVar && stands && place == i {
			found = p.kind(kinds, v)
		} else {
			found = put(b.kindOf(kinds, r), p.became)
			l = append(l, api.Eq{Left: p.at(i), Right: put(r, p.became)})
		}
		if !types.Same(found, shifted(univ[i], p.all-i)) {
			leave.With(api.ErrForm)
		}
	}
	return l
}

// sides returns those of an equation.
func sides(c api.Type) (api.Eq, bool) {
	head, l, _ := types.Spine(c)
	if !isConstant(head, "~") || len(l) != 2 {
		return api.Eq{}, false
	}
	return api.Eq{Left: l[0], Right: l[1]}, true
}

// conType is not proper if it would be too large.
func conType(c *api.DataCon) api.Type {
	var constraints []api.Type
	for _, e := range c.Eqs {
		constraints = append(constraints, applied(named("~"), e.Left, e.Right))
	}
	univ := variables(len(c.Univ), len(c.Univ)+len(c.Exis))
	t := function(slices.Concat(c.Args, []api.Type{applied(named(c.Data), univ...)})...)
	return foralls(slices.Concat(c.Univ, c.Exis), implications(slices.Concat(constraints, c.Given), t))
}

// checkFields holds the fields of a constructor against those of the constructors before it.
func checkFields(c *api.DataCon, before []api.DataCon) {
	if len(c.Fields) == 0 {
		return
	}
	if !IsPlain(*c) || len(c.Fields) != len(c.Args) || hasTwice(c.Fields) {
		leave.With(api.ErrField)
	}
	for i, field := range c.Fields {
		for _, other := range before {
			if n := slices.Index(other.Fields, field); n >= 0 && !types.Same(other.Args[n], c.Args[i]) {
				leave.With(api.ErrField)
			}
		}
	}
}
