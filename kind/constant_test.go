package kind

import (
	"strings"
	"testing"

	"damask/api"
	"damask/types"
)

func TestConstant(t *testing.T) {
	for name, text := range map[string]string{
		"Type": "Type", "Constraint": "Type", "Int": "Type", "Bool": "Type", "Unit": "Type", "->": "Type -> Type -> Type", "IO": "Type -> Type", "STM": "Type -> Type", "TVar": "Type -> Type",
		"'False": "Bool", "'True": "Bool", "'Unit": "Unit",
		"Nat": "Type", "Vec": "Type -> Nat -> Type", "Proxy": "forall (k : Type). k -> Type", "Plus": "Nat -> Nat -> Nat", "Any": "forall (k : Type). k",
		"Eq": "Type -> Constraint", "Functor": "(Type -> Type) -> Constraint", "Collect": "Type -> Type -> Constraint", "Void": "Constraint",
		"'Z": "Nat", "'S": "Nat -> Nat", "'Nil": "forall a. List a", "'Cons": "forall a. a -> List a -> List a", "'Proxy": "forall (k : Type) (a : k). Proxy k a", "'Box": "forall a. a -> Box",
	} {
		if k, e := Constant(world(), name); e != api.OK || !types.Same(k, read(text)) {
			t.Error(name, show(k), e)
		}
		if bare, ticked := strings.CutPrefix(name, "'"); ticked {
			if k, e := Promoted(world(), bare); e != api.OK || !types.Same(k, read(text)) {
				t.Error(name, show(k), e)
			}
		}
	}
	for _, name := range []string{"", "'", "~", "Z", "S", "True", "''Z", "'VNil", "'Shown", "'Nat", "'Eq", "'Plus", "'Int", "int", "Nat ", strings.Repeat("A", 100000)} {
		if k, e := Constant(world(), name); e != api.ErrName || !types.Same(k, api.Type{}) {
			t.Error(name, show(k), e)
		}
	}
	for _, name := range []string{"", "'Z", "VNil", "Shown", "Nat", "Int", "Eq", "Type", "~"} {
		if k, e := Promoted(world(), name); e != api.ErrName || !types.Same(k, api.Type{}) {
			t.Error(name, show(k), e)
		}
	}
}

// TestManyVariables: the variables of a promoted constructor stand in the context of all of them.
func TestManyVariables(t *testing.T) {
	names := []string{"k", "a", "j", "b"}
	c := api.DataCon{Name: "M.K", Data: "M.T", Univ: list(con("Type"), bound(0)), Exis: list(con("Type"), fun(bound(0), bound(2))), Args: reads(names, "Proxy k a", "forall (x : j). Proxy k (b x)"), Fields: []string{"one", "two"}}
	env := api.Env{Cons: []api.DataCon{c}}
	want := read("forall (k : Type) (a : k) (j : Type) (b : j -> k). Proxy k a -> (forall (x : j). Proxy k (b x)) -> (Tee k a)")
	want = renamed(want, "Tee", "M.T")
	if k, e := Promoted(env, "M.K"); e != api.OK || !types.Same(k, want) {
		t.Error(show(k), e)
	}
	if k, e := Constant(env, "'M.K"); e != api.OK || !types.Same(k, want) {
		t.Error(show(k), e)
	}
}

func renamed(t api.Type, from, to string) api.Type {
	if t.S == from {
		t.S = to
	}
	made := api.Type{Op: t.Op, N: t.N, S: t.S}
	for _, a := range t.Args {
		made.Args = append(made.Args, renamed(a, from, to))
	}
	return made
}

// TestFirst: what is built in comes first, then data types, families and classes, the first of a name.
func TestFirst(t *testing.T) {
	one, two, three := con("One"), con("Two"), con("Three")
	env := api.Env{
		Data:     []api.DataType{{Name: "A", Kind: one}, {Name: "A", Kind: two}, {Name: "Int", Kind: one}, {Name: "'Q", Kind: one}, {Name: "D", Kind: one}},
		Families: []api.Family{{Name: "A", Kind: three, Arity: 1}, {Name: "B", Kind: two, Arity: 0}, {Name: "B", Kind: three, Arity: 1}, {Name: "->", Kind: one, Arity: 3}, {Name: "'P", Kind: one}, {Name: "Type", Kind: one, Arity: 1}},
		Classes:  []api.Class{{Name: "B"}, {Name: "C", Vars: list(one)}, {Name: "C"}, {Name: "IO"}, {Name: "'P"}},
		Cons:     []api.DataCon{{Name: "K", Data: "One"}, {Name: "K", Data: "Two"}, {Name: "L", Data: "One", Given: list(one)}, {Name: "L", Data: "One"}, {Name: "True", Data: "One"}, {Name: "A", Data: "Two"}, {Name: "'R", Data: "Three"}, {Data: "One"}},
	}
	for name, text := range map[string]string{"A": "One", "B": "Two", "C": "One -> Constraint", "D": "One", "'K": "One", "Int": "Type", "IO": "Type -> Type", "->": "Type -> Type -> Type", "'True": "Bool", "'A": "Two", "''R": "Three", "Type": "Type", "'": "One"} {
		k, e := Constant(env, name)
		if e != api.OK || !types.Same(k, read(text)) {
			t.Error(name, show(k), e)
		}
		if k, e := Kind(env, nil, nil, nil, con(name)); e != api.OK || !types.Same(k, read(text)) {
			t.Error(name, show(k), e)
		}
	}
	for _, name := range []string{"'L", "'Q", "'P", "K", "'Int", "''K"} {
		if _, e := Constant(env, name); e != api.ErrName {
			t.Error(name, e)
		}
		if _, e := Kind(env, nil, nil, nil, con(name)); e != api.ErrName {
			t.Error(name, e)
		}
	}
}

// stars is a list of so many kinds.
func stars(n int) []api.Type {
	var l []api.Type
	for range n {
		l = append(l, con("Type"))
	}
	return l
}

// TestUsed: what is not proper in an environment is ErrFull where it is used, and nothing elsewhere.
func TestUsed(t *testing.T) {
	bad, star := api.Type{}, con("Type")
	env := api.Env{
		Data:     []api.DataType{{Name: "A", Kind: bad}, {Name: "Ok", Kind: star}, {Name: "N", Kind: api.Type{Op: api.YAll, S: "k", Args: list(star, star)}}},
		Families: []api.Family{{Name: "B", Kind: deep(41), Arity: 1}, {Name: "Ok2", Kind: star}},
		Classes:  []api.Class{{Name: "C", Vars: list(star, bad)}, {Name: "D", Vars: stars(39)}, {Name: "E", Vars: stars(601)}, {Name: "Ok3", Vars: stars(37)}},
		Cons: []api.DataCon{
			{Name: "F", Data: "", Args: nil}, {Name: "G", Data: strings.Repeat("A", 41)}, {Name: "H", Data: "A", Args: list(bad)}, {Name: "I", Data: "A", Univ: list(bad)}, {Name: "J", Data: "A", Exis: list(bad)},
			{Name: "K", Data: "A", Univ: stars(20)}, {Name: "L", Data: "A", Exis: stars(40)}, {Name: "M", Data: "A", Args: stars(40)}, {Name: "N", Data: "A", Univ: stars(20000)}, {Name: "O", Data: "A", Args: stars(601)},
			{Name: "P", Data: "A", Exis: list(bad), Given: list(bad)}, {Name: "Q", Data: "A", Exis: list(bad), Eqs: []api.Eq{{Left: bad, Right: bad}}}, {Name: "R", Data: "Ok", Univ: stars(19)},
		},
	}
	for _, name := range []string{"A", "N", "B", "C", "D", "E", "'F", "'G", "'H", "'I", "'J", "'K", "'L", "'M", "'N", "'O"} {
		if k, e := Constant(env, name); e != api.ErrFull || !types.Same(k, bad) {
			t.Error(name, show(k), e)
		}
		for i, x := range list(con(name), app(con(name), con("Missing")), app(con("IO"), con(name))) {
			if k, e := Kind(env, nil, nil, nil, x); e != api.ErrFull || !types.Same(k, bad) {
				t.Error(name, i, show(k), e)
			}
		}
	}
	for name, want := range map[string]api.Errno{"Ok": api.OK, "Ok2": api.OK, "Ok3": api.OK, "'R": api.OK, "'P": api.ErrName, "'Q": api.ErrName} {
		if _, e := Constant(env, name); e != want {
			t.Error(name, e)
		}
	}
	if e := Context(env, list(con("Ok"), con("A"))); e != api.ErrFull {
		t.Error(e)
	}
}

// TestTooLarge: a kind that arises on the way is too large.
func TestTooLarge(t *testing.T) {
	far := fun(bound(9999), con("Type"))
	for i, row := range []struct {
		ctx  []api.Type
		x    api.Type
		want api.Errno
	}{
		{list(far), bound(0), api.ErrFull}, {list(far), con("Int"), api.OK}, {list(far), app(bound(0), con("Missing")), api.ErrFull}, {list(con("Type"), bound(9998)), all(con("Type"), bound(1)), api.ErrFull}, {list(bound(9997)), bound(0), api.OK},
		{list(con("Type"), bound(9998)), bound(0), api.OK}, {list(con("Type"), bound(9999)), bound(1), api.OK},
	} {
		if k, e := Kind(world(), nil, nil, row.ctx, row.x); e != row.want {
			t.Error(i, show(k), e)
		}
	}
	many := con("Type")
	for range 18 {
		many = fun(bound(0), many)
	}
	env := world()
	env.Data = append(env.Data, api.DataType{Name: "Many", Kind: all(con("Type"), many)})
	wide := con("Int")
	for range 4 {
		wide = fun(wide, wide)
	}
	for i, row := range []struct {
		x    api.Type
		want api.Errno
	}{
		{app(con("Many"), con("Int")), api.OK}, {app(con("Many"), wide), api.ErrFull}, {app(app(con("Many"), wide), con("Missing")), api.ErrFull}, {app(con("Many"), app(con("Missing"), wide)), api.ErrName},
		{app(con("Many"), app(con("'S"), wide)), api.ErrKind}, {app(con("Many"), deep(35)), api.ErrFull},
	} {
		if k, e := Kind(env, nil, nil, nil, row.x); e != row.want {
			t.Error(i, show(k), e)
		}
	}
}
