package core

import (
	"slices"

	"damask/api"
)

func (c context) cases(t *api.Core) api.Type {
	of := c.term(&t.Args[0])
	result := t.Types[0]
	c.isOfType(result)
	in := c.withVar(of)
	for i := range t.Alts {
		a := &t.Alts[i]
		must(!slices.ContainsFunc(t.Alts[:i], func(before api.CoreAlt) bool {
			return before.Op == api.AAny || before.Op == a.Op && before.N == a.N && before.S == a.S
		}))
		within := in.inside(a, of)
		within.mustHave(&a.Body, shifted(result, len(within.kinds)-len(c.kinds)))
	}
	c.mustBeAll(of, t.Alts)
	return result
}

// inside is the context of an alternative of a case of something of a type.
func (c context) inside(a *api.CoreAlt, of api.Type) context {
	data, args := c.data(of)
	class, classArgs := c.class(of)
	switch {
	case isConstant(of, "Int"):
		must(a.Op != api.ACon)
	case data != nil:
		must(!data.New && a.Op != api.AInt)
		if a.Op == api.ACon {
			return c.insideConstructor(data, a.S, args)
		}
	case class != nil:
		must(a.Op == api.AAny || a.Op == api.ACon && a.S == class.Name+mark)
		if a.Op == api.ACon {
			return c.insideClass(class, classArgs)
		}
	default:
		must(false)
	}
	return c
}

// insideConstructor binds what is in a value with a constructor.
func (c context) insideConstructor(data *api.DataType, name string, args []api.Type) context {
	con := c.index.Cons[name]
	must(con != nil && slices.Contains(data.Cons, name) && len(con.Univ) == len(args))
	for i, k := range con.Exis {
		c.kinds = append(c.kinds[:len(c.kinds):len(c.kinds)], put(k, entered(args, i)))
	}
	all := entered(args, len(con.Exis))
	for _, e := range con.Eqs {
		sides := api.Eq{Left: put(e.Left, all), Right: put(e.Right, all)}
		c.cos = append(c.cos[:len(c.cos):len(c.cos)], pair{sides, len(c.kinds)})
	}
	for _, t := range slices.Concat(con.Given, con.Args) {
		c = c.withVar(put(t, all))
	}
	return c
}

// entered returns what the variables of a constructor stand for where n kinds more are bound.
func entered(args []api.Type, n int) []api.Type {
	var l []api.Type
	for _, t := range args {
		l = append(l, shifted(t, n))
	}
	return append(l, own(n)...)
}

// insideClass binds what is in a dictionary.
func (c context) insideClass(class *api.Class, args []api.Type) context {
	for _, s := range class.Supers {
		c = c.withVar(put(s, args))
	}
	for _, s := range class.Sigs {
		c = c.withVar(put(s.Type, args))
	}
	return c
}

// mustBeAll leaves if there can be a value for which there is no alternative.
func (c context) mustBeAll(of api.Type, alts []api.CoreAlt) {
	if n := len(alts); n > 0 && alts[n-1].Op == api.AAny {
		return
	}
	wanted := 1 // of a class
	if data, _ := c.data(of); data != nil {
		must(!isConstant(of, "Int") && !data.New)
		wanted = len(data.Cons)
	}
	must(len(alts) == wanted)
}
