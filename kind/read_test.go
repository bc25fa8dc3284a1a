package kind

import (
	"slices"
	"strconv"
	"strings"

	"damask/api"
	"damask/print"
	"damask/syntax"
)

func con(s string) api.Type         { return api.Type{Op: api.YCon, S: s} }
func bound(n int) api.Type          { return api.Type{Op: api.YVar, N: n} }
func rigid(n int) api.Type          { return api.Type{Op: api.YRigid, N: n} }
func app(f, a api.Type) api.Type    { return api.Type{Op: api.YApp, Args: []api.Type{f, a}} }
func fun(a, b api.Type) api.Type    { return app(app(con("->"), a), b) }
func all(k, b api.Type) api.Type    { return api.Type{Op: api.YAll, Args: []api.Type{k, b}} }
func imp(c, b api.Type) api.Type    { return api.Type{Op: api.YImp, Args: []api.Type{c, b}} }
func list(l ...api.Type) []api.Type { return l }

// read reads a type: its small names are those of variables, the last one that of the variable 0; m0 is the metavariable 0, r0 the rigid variable 0, and v0 the variable 0 outside of the names.
func read(text string, names ...string) api.Type {
	t, at, e := syntax.Type(text)
	if e != api.OK {
		panic(text + ": not read at " + strconv.Itoa(at))
	}
	return nameless(t, names)
}

func nameless(t api.Type, names []string) api.Type {
	switch t.Op {
	case api.YName:
		for i, name := range slices.Backward(names) {
			if name == t.S {
				return bound(len(names) - 1 - i)
			}
		}
		n, e := strconv.Atoi(t.S[1:])
		op := strings.Index("v    mr", t.S[:1]) + 1
		if e != nil || op < api.YVar {
			panic(t.S + ": no such variable")
		}
		if op == api.YVar {
			n += len(names)
		}
		return api.Type{Op: op, N: n}
	case api.YAll:
		return all(nameless(t.Args[0], names), nameless(t.Args[1], append(slices.Clone(names), t.S)))
	}
	made := api.Type{Op: t.Op, N: t.N, S: t.S}
	for _, a := range t.Args {
		made.Args = append(made.Args, nameless(a, names))
	}
	return made
}

// reads reads types, each with the same names.
func reads(names []string, texts ...string) []api.Type {
	var l []api.Type
	for _, text := range texts {
		l = append(l, read(text, names...))
	}
	return l
}

// scoped reads a context: "a : Type, f : a -> a".
func scoped(text string) (names []string, ctx []api.Type) {
	for _, part := range strings.Split(text, ", ") {
		if name, k, ok := strings.Cut(part, " : "); ok {
			ctx = append(ctx, read(k, names...))
			names = append(names, name)
		}
	}
	return names, ctx
}

func show(t api.Type) string {
	text, e := print.Closed(t)
	if e != api.OK {
		return "not proper"
	}
	return text
}

// world is an environment in which there is one of everything.
func world() api.Env {
	a := []string{"a"}
	nat := read("Nat")
	star := con("Type")
	return api.Env{
		Data: []api.DataType{
			{Name: "Nat", Kind: star, Cons: []string{"Z", "S"}},
			{Name: "List", Kind: read("Type -> Type"), Cons: []string{"Nil", "Cons"}},
			{Name: "Vec", Kind: read("Type -> Nat -> Type"), Cons: []string{"VNil", "VCons"}},
			{Name: "Proxy", Kind: read("forall (k : Type). k -> Type"), Cons: []string{"Proxy"}},
			{Name: "Box", Kind: star, Cons: []string{"Box", "Shown"}},
			{Name: "Fix", Kind: read("(Type -> Type) -> Type"), New: true},
			{Name: "Tagged", Kind: read("List Type -> forall (n : Nat). Vec Type n -> Type")},
		},
		Cons: []api.DataCon{
			{Name: "Z", Data: "Nat"},
			{Name: "S", Data: "Nat", Args: list(nat)},
			{Name: "Nil", Data: "List", Univ: list(star)},
			{Name: "Cons", Data: "List", Univ: list(star), Args: reads(a, "a", "List a")},
			{Name: "VNil", Data: "Vec", Univ: list(star, nat), Eqs: []api.Eq{{Left: bound(0), Right: con("'Z")}}},
			{Name: "Proxy", Data: "Proxy", Univ: list(star, bound(0))},
			{Name: "Box", Data: "Box", Exis: list(star), Args: list(bound(0))},
			{Name: "Shown", Data: "Box", Exis: list(star), Given: reads(a, "Eq a"), Args: list(bound(0))},
		},
		Families: []api.Family{
			{Name: "Plus", Kind: read("Nat -> Nat -> Nat"), Arity: 2},
			{Name: "Elem", Kind: read("Type -> Type -> Type"), Arity: 1},
			{Name: "Same", Kind: read("forall (k : Type). k -> k -> Bool"), Arity: 3},
			{Name: "Any", Kind: read("forall (k : Type). k"), Arity: 1},
			{Name: "Free", Kind: read("Type -> Type")},
		},
		Classes: []api.Class{
			{Name: "Eq", Vars: list(star)},
			{Name: "Functor", Vars: reads(nil, "Type -> Type")},
			{Name: "Collect", Vars: list(star, star)},
			{Name: "Sized", Vars: list(nat)},
			{Name: "Void"},
		},
	}
}
