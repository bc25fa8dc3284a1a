package kind

import (
	"testing"

	"damask/api"
	"damask/internal/sample"
	"damask/internal/text"
	"damask/scope"
	"damask/syntax"
)

// declarations returns those of the example of DOC.md, and an environment of what they say themselves.
func declarations(t *testing.T) ([]api.Decl, api.Env) {
	l, _, e := syntax.Modules(sample.Example)
	p, e2 := scope.Resolve(l)
	if e != api.OK || e2 != api.OK {
		t.Fatal(e, e2)
	}
	var env api.Env
	for _, d := range p.Decls {
		switch d.Op {
		case api.DData, api.DNew:
			env.Data = append(env.Data, api.DataType{Name: d.Name, Kind: text.Nameless(d.Type, nil)})
		case api.DFamily:
			env.Families = append(env.Families, api.Family{Name: d.Name, Kind: text.Nameless(d.Type, nil), Arity: 2})
		case api.DClass:
			c := api.Class{Name: d.Name}
			for _, v := range d.Vars {
				c.Vars = append(c.Vars, v.Kind)
			}
			env.Classes = append(env.Classes, c)
		}
	}
	env.Cons = []api.DataCon{{Name: "Main.Z", Data: "Main.Nat"}, {Name: "Main.S", Data: "Main.Nat", Args: list(con("Main.Nat"))}}
	return p.Decls, env
}

// TestExample: all types in the example of DOC.md have the kind that they must have.
func TestExample(t *testing.T) {
	l, env := declarations(t)
	types := 0
	check := func(names []string, ctx []api.Type, x api.Type) {
		types++
		if e := Check(env, nil, nil, ctx, text.Nameless(x, names), con("Type")); e != api.OK {
			t.Error(show(text.Nameless(x, names)), e)
		}
	}
	for _, d := range l {
		if d.Op == api.DSig {
			check(nil, nil, d.Type)
		}
		for _, c := range d.Cons {
			check(nil, nil, c.Type)
		}
		var names []string
		var ctx []api.Type
		for _, v := range d.Vars {
			names, ctx = append(names, v.Name), append(ctx, v.Kind)
		}
		for _, s := range d.Sigs {
			check(names, ctx, s.Type)
		}
		for _, c := range d.Context {
			check(names, ctx, imp(c, con("Int")))
		}
		if d.Op == api.DInst {
			check(nil, nil, constrained(d.Type))
		}
	}
	if types != 19 {
		t.Error(types)
	}
}

// constrained makes a type of the type of an instance.
func constrained(t api.Type) api.Type {
	switch t.Op {
	case api.YAll, api.YImp:
		return api.Type{Op: t.Op, S: t.S, Args: list(t.Args[0], constrained(t.Args[1]))}
	}
	return imp(t, con("Int"))
}
