package kind

import (
	"strings"
	"testing"

	"damask/api"
	"damask/types"
)

// variables are the metavariables and rigid variables of the tests.
func variables() ([]api.Meta, []api.Rigid) {
	metas := []api.Meta{{Kind: con("Type")}, {Kind: read("Type -> Type"), Level: 2}, {Kind: read("Nat"), Solved: true, Value: con("Int")}, {Kind: read("m2")}}
	rigids := []api.Rigid{{Kind: con("Nat")}, {Kind: read("forall (k : Type). k -> k"), Level: 1}, {Kind: read("r0 -> Type")}}
	return metas, rigids
}

func TestKind(t *testing.T) {
	metas, rigids := variables()
	for _, row := range [][3]string{
		{"", "Type", "Type"}, {"", "Constraint", "Type"}, {"", "Int", "Type"}, {"", "Bool", "Type"}, {"", "Unit", "Type"},
		{"", "(->)", "Type -> Type -> Type"}, {"", "(->) Int", "Type -> Type"}, {"", "Int -> Bool", "Type"},
		{"", "IO", "Type -> Type"}, {"", "STM", "Type -> Type"}, {"", "TVar", "Type -> Type"}, {"", "STM (TVar (IO Int))", "Type"},
		{"", "'False", "Bool"}, {"", "'True", "Bool"}, {"", "'Unit", "Unit"},
		{"", "Vec Int ('S 'Z)", "Type"}, {"", "Vec Int", "Nat -> Type"}, {"", "Vec", "Type -> Nat -> Type"},
		{"", "Proxy", "forall (k : Type). k -> Type"}, {"", "Proxy Type", "Type -> Type"}, {"", "Proxy Type Int", "Type"}, {"", "Proxy Nat 'Z", "Type"},
		{"", "Proxy (Type -> Type) IO", "Type"}, {"", "Proxy (forall (k : Type). k -> Type) Proxy", "Type"}, {"", "Proxy Constraint (Int ~ Bool)", "Type"},
		{"", "Fix List", "Type"}, {"", "Fix (Proxy Type)", "Type"},
		{"", "'Cons", "forall (a : Type). a -> List a -> List a"}, {"", "'Cons Nat", "Nat -> List Nat -> List Nat"}, {"", "'Cons Type Int ('Nil Type)", "List Type"},
		{"", "'Proxy", "forall (k : Type). forall (a : k). Proxy k a"}, {"", "'Proxy Nat 'Z", "Proxy Nat 'Z"}, {"", "'Box", "forall (a : Type). a -> Box"},
		{"", "Tagged ('Nil Type)", "forall (n : Nat). Vec Type n -> Type"}, {"", "Tagged ('Nil Type) 'Z", "Vec Type 'Z -> Type"},
		{"", "Plus 'Z ('S 'Z)", "Nat"}, {"", "Vec Int (Plus 'Z 'Z)", "Type"}, {"", "Elem Int", "Type -> Type"}, {"", "Elem Int Bool", "Type"}, {"", "Free", "Type -> Type"}, {"", "Free Int", "Type"},
		{"", "Same Nat 'Z 'Z", "Bool"}, {"", "Same Type Int (Any Type)", "Bool"}, {"", "Any (Type -> Type)", "Type -> Type"}, {"", "Any (Type -> Type) Int", "Type"}, {"", "Any (forall (k : Type). k) Nat", "Nat"},
		{"", "Eq", "Type -> Constraint"}, {"", "Eq Int", "Constraint"}, {"", "Functor", "(Type -> Type) -> Constraint"}, {"", "Collect Int", "Type -> Constraint"}, {"", "Void", "Constraint"}, {"", "Sized ('S 'Z)", "Constraint"},
		{"", "Int ~ Bool", "Constraint"}, {"", "IO ~ List", "Constraint"}, {"", "Eq ~ Collect Int", "Constraint"}, {"", "Eq Int ~ (Nat ~ Int)", "Constraint"}, {"", "Proxy ~ Proxy", "Constraint"},
		{"", "forall a. a -> a", "Type"}, {"", "forall (f : Type -> Type) a. f a -> f (f a)", "Type"}, {"", "forall (k : Type) (a : k). Proxy k a", "Type"}, {"", "forall (n : Nat). Int", "Type"},
		{"", "Void => Int", "Type"}, {"", "forall a. Eq a => (a ~ Int) => a", "Type"}, {"", "forall (c : Constraint). c => Int", "Type"}, {"", "List (forall a. Eq a => a)", "Type"},
		{"a : Type, f : a -> Type, x : a", "a", "Type"}, {"a : Type, f : a -> Type, x : a", "f", "a -> Type"}, {"a : Type, f : a -> Type, x : a", "f x", "Type"},
		{"a : Type, f : a -> Type, x : a", "forall (y : a). f y", "Type"}, {"a : Type, f : a -> Type, x : a", "Proxy a", "a -> Type"}, {"a : Type, f : a -> Type, x : a", "forall (b : Type) (y : b). Proxy a x -> Proxy b y", "Type"},
		{"k : Type, g : forall (j : Type). j -> k -> j", "g", "forall (j : Type). j -> k -> j"}, {"k : Type, g : forall (j : Type). j -> k -> j", "g k", "k -> k -> k"},
		{"k : Type, g : forall (j : Type). j -> k -> j, x : k", "g (k -> Type) (Any (k -> Type)) x x", "Type"},
		{"", "m0", "Type"}, {"", "m1 m0", "Type"}, {"", "m2", "Nat"}, {"", "m3", "m2"}, {"", "r0", "Nat"}, {"", "r1", "forall (k : Type). k -> k"}, {"", "r1 Nat", "Nat -> Nat"}, {"", "r1 Nat r0", "Nat"}, {"", "r2", "r0 -> Type"},
		{"x : Nat, k : m0, y : r0", "k", "m0"}, {"x : Nat, k : m0, y : r0", "r2 y", "Type"}, {"x : Nat, k : m0, y : r0", "forall a. m1 a -> r2 y", "Type"},
	} {
		names, ctx := scoped(row[0])
		k, e := Kind(world(), metas, rigids, ctx, read(row[1], names...))
		want := read(row[2], names...)
		if e != api.OK || !types.Same(k, want) {
			t.Error(row, show(k), e)
		}
		if e := Check(world(), metas, rigids, ctx, read(row[1], names...), want); e != api.OK {
			t.Error(row, e)
		}
	}
}

// TestErrors: which error there is, where there are several, too.
func TestErrors(t *testing.T) {
	metas, rigids := variables()
	rows := map[api.Errno][][2]string{
		api.ErrName: {
			{"", "Missing"}, {"", "'Missing"}, {"", "Z"}, {"", "True"}, {"", "'Nat"}, {"", "'Int"}, {"", "'Plus"}, {"", "'Eq"}, {"", "'VNil"}, {"", "'Shown"}, {"", "Missing v0"}, {"", "Missing 'Z"}, {"", "List Missing"},
			{"", "Vec Missing v0"}, {"", "List Missing v0"}, {"", "Missing -> v0"}, {"", "Missing ~ v0"}, {"", "forall (a : Missing). v0"}, {"", "forall a. Missing"}, {"", "Missing => v0"}, {"", "Void => Missing"}, {"", "Vec Missing (Plus 'Z)"},
			{"", "Int ~ Missing"}, {"", "m1 Missing"},
		},
		api.ErrNone: {
			{"", "v0"}, {"a : Type", "v0"}, {"", "forall a. v0"}, {"", "m4"}, {"", "r3"}, {"", "v0 Missing"}, {"", "m9 Missing"}, {"", "r9 Missing"}, {"", "Vec v0 Missing"}, {"", "v0 ~ Missing"}, {"", "Vec v0 Int"}, {"a : v0", "v1"},
			{"", "forall (a : v0). Missing"}, {"", "v9997"},
		},
		api.ErrForm: {
			{"", "Plus"}, {"", "Plus 'Z"}, {"", "Plus Missing"}, {"", "Plus 'Z -> Missing"}, {"", "Elem"}, {"", "Fix Elem"}, {"", "Same Nat 'Z"}, {"", "Any"}, {"", "List Any"}, {"", "List (Plus v0)"},
			{"", "(Int ~ Bool) Int"}, {"", "(Missing ~ v0) Missing"}, {"", "(Int ~ 'Z) Int"}, {"", "Elem ~ Missing"}, {"", "Proxy Nat (Plus 'Z)"}, {"", "forall (a : Plus). Missing"},
		},
		api.ErrKind: {
			{"", "Vec 'Z"}, {"", "Vec Int Int"}, {"", "Vec Int 'Z Missing"}, {"", "Int Missing"}, {"", "Int v0"}, {"", "List 'Z Missing"}, {"", "List List"}, {"", "'Z -> Missing"}, {"", "Int -> 'Z"}, {"", "List Type Int"},
			{"", "Proxy 'Z"}, {"", "Proxy Nat Int"}, {"", "Proxy Nat 'Z 'Z"}, {"", "Int ~ IO"}, {"", "Int ~ 'Z"}, {"", "'Z ~ 'True"}, {"", "Eq IO"}, {"", "Eq Int Int"}, {"", "Functor Int"}, {"", "Void Int"},
			{"", "forall (a : 'Z). Missing"}, {"", "forall (a : IO). Int"}, {"", "forall a. IO"}, {"", "forall (n : Nat). n"}, {"", "forall (c : Constraint). c"}, {"", "(forall a. a) Missing"}, {"", "(Void => Int) Missing"},
			{"", "Int => Missing"}, {"", "Eq => Missing"}, {"", "Void => 'Z"}, {"", "Void => Void"}, {"", "Fix (Vec Int)"}, {"", "m0 Missing"}, {"", "m1 r0"}, {"", "r1 Nat Int"}, {"", "r1 r0"}, {"", "r2 'Z"},
			{"", "Tagged ('Nil Type) 'Z ('Nil Type)"}, {"a : Type, x : a", "Vec Int x"}, {"a : Type, b : Type, x : b", "Proxy a x"}, {"x : Vec Type (Plus 'Z 'Z)", "Tagged ('Nil Type) 'Z x"}, {"x : m2", "Vec Int x"},
			{"", "Plus Int Missing"}, {"", "Plus 'Z Int"}, {"", "Plus 'Z 'Z Missing"}, {"", "forall a. (a ~ 'Z) => Missing"},
		},
	}
	for want, l := range rows {
		for _, row := range l {
			names, ctx := scoped(row[0])
			x := read(row[1], names...)
			k, e := Kind(world(), metas, rigids, ctx, x)
			if e != want || !types.Same(k, api.Type{}) {
				t.Error(row, "is", e, "and not", want, show(k))
			}
			if e := Check(world(), metas, rigids, ctx, x, con("Type")); e != want {
				t.Error(row, e)
			}
		}
	}
}

// TestEquality: `~` has no kind of its own, and stands before two types alone.
func TestEquality(t *testing.T) {
	equal, missing := con("~"), con("Missing")
	for i, x := range list(equal, app(equal, con("Int")), app(equal, missing), app(app(app(equal, con("Int")), con("Int")), con("Int")), app(app(app(equal, missing), missing), missing),
		app(con("List"), equal), app(app(equal, equal), equal), app(app(equal, app(equal, missing)), missing)) {
		if _, e := Kind(world(), nil, nil, nil, x); e != api.ErrForm {
			t.Error(i, e)
		}
	}
	env := world()
	env.Data = append(env.Data, api.DataType{Name: "~", Kind: con("Type")})
	env.Families = append(env.Families, api.Family{Name: "~", Kind: con("Type")})
	env.Classes = append(env.Classes, api.Class{Name: "~"})
	if k, e := Kind(env, nil, nil, nil, app(app(equal, con("Int")), con("Nat"))); e != api.OK || show(k) != "Constraint" {
		t.Error(show(k), e)
	}
	if _, e := Kind(env, nil, nil, nil, equal); e != api.ErrForm {
		t.Error(e)
	}
	if k, e := Constant(env, "~"); e != api.ErrName || !types.Same(k, api.Type{}) {
		t.Error(k, e)
	}
}

// deep is nested so many nodes deep.
func deep(n int) api.Type {
	t := con("Int")
	for ; n > 1; n-- {
		t = app(con("IO"), t)
	}
	return t
}

// improper are types that are not proper, each for another reason.
func improper() []api.Type {
	return list(api.Type{}, api.Type{Op: -1}, api.Type{Op: api.YName, S: "a"}, con(""), con(strings.Repeat("A", 41)), bound(-1), rigid(10000), app(con("IO"), api.Type{}),
		api.Type{Op: api.YAll, S: "a", Args: list(con("Type"), con("Int"))}, api.Type{Op: api.YApp, Args: list(con("IO"))}, imp(con("Void"), con("")), deep(41), deep(1<<16))
}

// TestImproper gives each function each improper type in each place, beside what has other errors.
func TestImproper(t *testing.T) {
	env, ok, missing := world(), con("Int"), con("Missing")
	for i, x := range improper() {
		metas, rigids := []api.Meta{{Kind: ok}, {Kind: x, Solved: i%2 == 0, Value: ok}}, []api.Rigid{{Kind: ok}, {Kind: x}}
		calls := map[string]api.Errno{
			"Check": Check(env, nil, nil, nil, x, ok), "Check kind": Check(env, nil, nil, nil, missing, x), "Check ctx": Check(env, nil, nil, list(ok, x), missing, ok),
			"Check metas": Check(env, metas, nil, nil, missing, ok), "Check rigids": Check(env, nil, rigids, nil, missing, ok),
			"Context": Context(env, list(missing, x)),
		}
		for place, c := range map[string]func() (api.Type, api.Errno){
			"Kind": func() (api.Type, api.Errno) { return Kind(env, nil, nil, nil, x) }, "Kind ctx": func() (api.Type, api.Errno) { return Kind(env, nil, nil, list(x, ok), missing) },
			"Kind metas":  func() (api.Type, api.Errno) { return Kind(env, metas, nil, nil, missing) },
			"Kind rigids": func() (api.Type, api.Errno) { return Kind(env, nil, rigids, nil, missing) },
		} {
			k, e := c()
			if calls[place] = e; !types.Same(k, api.Type{}) {
				t.Error(i, place, k)
			}
		}
		n, left, e := Arity(x)
		if calls["Arity"] = e; n != 0 || !types.Same(left, api.Type{}) {
			t.Error(i, n, left)
		}
		for place, e := range calls {
			if e != api.ErrArg {
				t.Error(i, place, e)
			}
		}
	}
	if e := Check(env, []api.Meta{{Kind: con("Int"), Value: api.Type{}, Solved: true, Level: -1}}, []api.Rigid{{Kind: con("Int"), Level: -1}}, nil, ok, con("Type")); e != api.OK {
		t.Error("values and levels are not looked at:", e)
	}
}

// TestLargeContext: a context has at most MaxDepth kinds, but there can be more behind foralls.
func TestLargeContext(t *testing.T) {
	var ctx []api.Type
	for range api.MaxDepth {
		ctx = append(ctx, con("Type"))
	}
	x := bound(45)
	for range 6 {
		x = all(con("Nat"), x)
	}
	if k, e := Kind(world(), nil, nil, ctx, x); e != api.OK || show(k) != "Type" {
		t.Error(show(k), e)
	}
	if e := Context(world(), ctx); e != api.OK {
		t.Error(e)
	}
	ctx = append(ctx, con("Type"))
	_, e := Kind(world(), nil, nil, ctx, con("Missing"))
	if e2, e3 := Check(world(), nil, nil, ctx, con("Int"), con("Type")), Context(world(), ctx); e != api.ErrArg || e2 != api.ErrArg || e3 != api.ErrArg {
		t.Error(e, e2, e3)
	}
}

func TestCheck(t *testing.T) {
	for _, row := range []struct {
		text, kind string
		want       api.Errno
	}{
		{"Vec Int", "Nat -> Type", api.OK}, {"Vec Int", "Type -> Type", api.ErrKind}, {"Int", "Missing", api.ErrKind}, {"Int", "v3", api.ErrKind}, {"Missing", "v3", api.ErrName}, {"v0", "Type", api.ErrNone},
		{"Plus", "Nat -> Nat -> Nat", api.ErrForm}, {"'Box", "forall a. a -> Box", api.OK}, {"Any Nat", "Nat", api.OK}, {"Any (Vec Int (Plus 'Z 'Z))", "Vec Int 'Z", api.ErrKind}, {"Any (Vec Int (Plus 'Z 'Z))", "Vec Int (Plus 'Z 'Z)", api.OK},
	} {
		if e := Check(world(), nil, nil, nil, read(row.text), read(row.kind)); e != row.want {
			t.Error(row, e)
		}
	}
}

func TestContext(t *testing.T) {
	for text, want := range map[string]api.Errno{
		"": api.OK, "a : Type": api.OK, "a : Int, b : Constraint, c : Type -> Type": api.OK, "a : Type, x : a, p : Proxy a x": api.OK, "f : forall (k : Type). k, x : f Nat": api.ErrKind, "f : forall (k : Type). k, x : f Type": api.OK,
		"a : IO": api.ErrKind, "n : Nat, x : n": api.ErrKind, "n : Nat, x : n, y : Missing": api.ErrKind, "y : Missing, n : 'Z": api.ErrName, "a : v0": api.ErrNone, "a : Type, b : v0": api.ErrNone, "a : m0": api.ErrNone, "a : r0": api.ErrNone,
		"a : Plus 'Z": api.ErrForm, "a : Eq Int": api.ErrKind, "a : Eq Int => Type": api.OK, "a : 'Z": api.ErrKind,
	} {
		_, ctx := scoped(text)
		if e := Context(world(), ctx); e != want {
			t.Error(text, e)
		}
	}
}

func TestArity(t *testing.T) {
	for _, row := range []struct {
		text string
		n    int
		left string
	}{
		{"Type", 0, "Type"}, {"Type -> Nat -> Type", 2, "Type"}, {"forall (k : Type). k -> Type", 2, "Type"}, {"Type -> forall (k : Type). k", 2, "v0"}, {"forall (k : Type) (j : k). j -> v0", 3, "v2"},
		{"(Type -> Type) -> Type", 1, "Type"}, {"Eq Int => Type -> Type", 0, "Eq Int => Type -> Type"}, {"Type -> Eq Int => Type", 1, "Eq Int => Type"}, {"(->) Int", 0, "(->) Int"}, {"(->)", 0, "(->)"}, {"(Int -> Int) Int", 0, "(Int -> Int) Int"},
		{"Int ~ Bool", 0, "Int ~ Bool"}, {"m0 -> r0", 1, "r0"}, {"Missing 'Z -> Missing", 1, "Missing"},
	} {
		if n, left, e := Arity(read(row.text)); e != api.OK || n != row.n || !types.Same(left, read(row.left)) {
			t.Error(row, n, show(left), e)
		}
	}
}

// TestAsTheyAre: the Kinds of metavariables and rigid variables are neither shifted nor resolved, wherever these stand.
func TestAsTheyAre(t *testing.T) {
	metas, rigids := []api.Meta{{Kind: bound(0)}, {Kind: con("Type"), Solved: true, Value: con("Nat")}, {Kind: read("m1")}}, []api.Rigid{{Kind: bound(0)}}
	for text, want := range map[string]string{"m0": "v0", "r0": "v0", "m2": "m1"} {
		for n := range 3 {
			ctx := stars(n)
			if k, e := Kind(world(), metas, rigids, ctx, read(text)); e != api.OK || !types.Same(k, read(want)) {
				t.Error(text, n, show(k), e)
			}
		}
	}
	for text, want := range map[string]api.Errno{"forall a. Proxy a m0": api.OK, "forall a. Proxy a r0": api.OK, "forall a b. Proxy a r0": api.ErrKind, "Proxy Nat m2": api.ErrKind, "Proxy m1 m2": api.OK} {
		if e := Check(world(), metas, rigids, nil, read(text), con("Type")); e != want {
			t.Error(text, e)
		}
	}
}
