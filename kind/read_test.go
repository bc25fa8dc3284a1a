package kind

import (
	"strings"

	"damask/api"
	"damask/internal/text"
)

func con(s string) api.Type         { return api.Type{Op: api.YCon, S: s} }
func bound(n int) api.Type          { return api.Type{Op: api.YVar, N: n} }
func rigid(n int) api.Type          { return api.Type{Op: api.YRigid, N: n} }
func app(f, a api.Type) api.Type    { return api.Type{Op: api.YApp, Args: []api.Type{f, a}} }
func fun(a, b api.Type) api.Type    { return app(app(con("->"), a), b) }
func all(k, b api.Type) api.Type    { return api.Type{Op: api.YAll, Args: []api.Type{k, b}} }
func imp(c, b api.Type) api.Type    { return api.Type{Op: api.YImp, Args: []api.Type{c, b}} }
func list(l ...api.Type) []api.Type { return l }

func read(t string, names ...string) api.Type          { return text.Type(t, names...) }
func reads(names []string, texts ...string) []api.Type { return text.Types(names, texts...) }
func show(t api.Type) string                           { return text.Show(t) }

// scoped reads a context: "a : Type, f : a -> a".
func scoped(all string) (names []string, ctx []api.Type) {
	for _, part := range strings.Split(all, ", ") {
		if name, k, ok := strings.Cut(part, " : "); ok {
			ctx = append(ctx, read(k, names...))
			names = append(names, name)
		}
	}
	return names, ctx
}

// world is an environment in which there is one of everything.
func world() api.Env {
	a := []string{"a"}
	nat := read("Nat")
	star := con("Type")
	return api.Env{
		Data: []api.DataType{
			{Name: "Nat", Kind: star, Cons: []string{"Z", "S"}},
			{Name: "List", Kind: read("Type -> Type"), Cons: []string{"Nil", "Cons"}},
			{Name: "Vec", Kind: read("Type -> Nat -> Type"), Cons: []string{"VNil", "VCons"}},
			{Name: "Proxy", Kind: read("forall (k : Type). k -> Type"), Cons: []string{"Proxy"}},
			{Name: "Box", Kind: star, Cons: []string{"Box", "Shown"}},
			{Name: "Fix", Kind: read("(Type -> Type) -> Type"), New: true},
			{Name: "Tagged", Kind: read("List Type -> forall (n : Nat). Vec Type n -> Type")},
		},
		Cons: []api.DataCon{
			{Name: "Z", Data: "Nat"},
			{Name: "S", Data: "Nat", Args: list(nat)},
			{Name: "Nil", Data: "List", Univ: list(star)},
			{Name: "Cons", Data: "List", Univ: list(star), Args: reads(a, "a", "List a")},
			{Name: "VNil", Data: "Vec", Univ: list(star, nat), Eqs: []api.Eq{{Left: bound(0), Right: con("'Z")}}},
			{Name: "Proxy", Data: "Proxy", Univ: list(star, bound(0))},
			{Name: "Box", Data: "Box", Exis: list(star), Args: list(bound(0))},
			{Name: "Shown", Data: "Box", Exis: list(star), Given: reads(a, "Eq a"), Args: list(bound(0))},
		},
		Families: []api.Family{
			{Name: "Plus", Kind: read("Nat -> Nat -> Nat"), Arity: 2},
			{Name: "Elem", Kind: read("Type -> Type -> Type"), Arity: 1},
			{Name: "Same", Kind: read("forall (k : Type). k -> k -> Bool"), Arity: 3},
			{Name: "Any", Kind: read("forall (k : Type). k"), Arity: 1},
			{Name: "Free", Kind: read("Type -> Type")},
		},
		Classes: []api.Class{
			{Name: "Eq", Vars: list(star)},
			{Name: "Functor", Vars: reads(nil, "Type -> Type")},
			{Name: "Collect", Vars: list(star, star)},
			{Name: "Sized", Vars: list(nat)},
			{Name: "Void"},
		},
	}
}
