package family

import (
	"slices"
	"testing"

	"damask/api"
	"damask/internal/text"
	"damask/types"
)

func TestNormal(t *testing.T) {
	env := text.Families(source)
	for _, row := range []struct {
		t, want string
		steps   int
	}{
		{"Plus ('S 'Z) v3", "'S v3", 2}, {"Plus ('S 'Z) m0", "'S m0", 2}, {"Plus ('S ('S 'Z)) ('S 'Z)", "'S ('S ('S 'Z))", 3},
		{"Plus r0 'Z", "Plus r0 'Z", 0}, {"Plus m0 'Z", "Plus m0 'Z", 0}, {"Plus v0 'Z", "Plus v0 'Z", 0}, {"Plus ('S r0) m1", "'S (Plus r0 m1)", 1}, {"Plus (Plus 'Z 'Z) r0", "r0", 2}, {"Plus (Plus r0 'Z) 'Z", "Plus (Plus r0 'Z) 'Z", 0},
		{"Eq Int Bool", "'False", 1}, {"Eq Int Int", "'True", 1}, {"Eq r0 Int", "Eq r0 Int", 0}, {"Eq r0 r0", "'True", 1}, {"Eq r0 r1", "Eq r0 r1", 0}, {"Eq (List r0) (IO r0)", "'False", 1}, {"Eq Stuck Int", "Eq Stuck Int", 0}, {"Eq Stuck Stuck", "'True", 1},
		{"Eq (forall a. a) (forall b. b)", "'True", 1}, {"Eq (forall a. a) (forall b. Int)", "Eq (forall a. a) (forall b. Int)", 0}, {"Eq (forall a. a) Int", "'False", 1},
		{"One", "Int", 2}, {"List One", "List Int", 2}, {"Stuck", "Stuck", 0}, {"Id", "Id", 0}, {"P Id (Const Int)", "P Id (Const Int)", 0}, {"Const (Id Int)", "Const Int", 1},
		{"Id List Int", "List Int", 1}, {"Id Id Int", "Int", 2}, {"Id (Id Const) One (Id Bool)", "Int", 6}, {"Const List Bool Int", "List Int", 1},
		{"Elem (List (Id Int))", "Int", 2}, {"Elem (IO Int)", "IO Bool", 1}, {"Elem (r0 Int)", "Elem (r0 Int)", 0}, {"Elem (Int -> Bool)", "Bool", 2}, {"Elem (Int -> Int)", "(->) Int Bool", 1}, {"Elem (IO r0)", "Elem (IO r0)", 0}, {"Elem Stuck", "Elem Stuck", 0}, {"Elem Int", "Elem Int", 0},
		{"forall (a : Id Type). Id a ~ One => List (Id v0)", "forall (a : Type). a ~ Int => List v0", 5}, {"forall a. forall b. Const a b", "forall a. forall b. a", 1},
		{"Under (Elem (List v7))", "forall (b : v7). v7 ~ b => Pair b v7", 3}, {"Three m0 m0 Int", "Three m0 m0 Int", 0}, {"Three m0 Int Int", "Three m0 Int Int", 0}, {"Three Bool Int Int", "Bool", 1}, {"Three m0 Int Bool", "Bool", 1},
		{"Shadow Int", "Shadow Int", 0}, {"Const Int", "Const Int", 0}, {"Missing (Plus 'Z r0)", "Missing r0", 1},
	} {
		got, n, e := Normal(env, read(row.t))
		if e != api.OK || n != row.steps || !types.Same(got, read(row.want)) {
			t.Error(row.t, show(got), n, e)
		}
	}
}

// TestFuel: 1000 steps may be made, and no more; those that come first decide.
func TestFuel(t *testing.T) {
	env := text.Families(source)
	tree := func(n int) api.Type { return app(con("Tree"), number(n)) } // needs 1, 4, 10, 22, 46, 94, 190, 382, 766 steps and so on
	quarter := app(app(con("P"), tree(6)), app(app(con("P"), tree(3)), tree(3)))
	thousand := app(app(con("P"), tree(8)), quarter)
	if got, n, e := Normal(env, thousand); e != api.OK || n != 1000 || show(got) != "P Int (P Int (P Int Int))" {
		t.Error(show(got), n, e)
	}
	if got, n, e := Normal(env, app(con("Id"), thousand)); e != api.ErrFuel || n != 0 || !types.Same(got, api.Type{}) {
		t.Error(show(got), n, e)
	}
	for text, want := range map[string]api.Errno{
		"Loop": api.ErrFuel, "Grow Int": api.ErrFull, "P Loop (Grow Int)": api.ErrFuel, "P (Grow Int) Loop": api.ErrFull, "Loop => Grow Int": api.ErrFuel, "forall (a : Grow Int). Loop": api.ErrFull,
		"Const Int Loop": api.ErrFuel, "Const Int (Grow Int)": api.ErrFull, "Grow Loop": api.ErrFuel, "Grow Grow": api.ErrFull, "Id Grow": api.OK,
	} {
		if got, n, e := Normal(env, read(text)); e != want || e != api.OK && (n != 0 || !types.Same(got, api.Type{})) {
			t.Error(text, show(got), n, e)
		}
	}
}

// TestFull: the whole type must be proper after each step.
func TestFull(t *testing.T) {
	env := text.Families(source)
	plus := func(n, m int) api.Type { return app(app(con("Plus"), number(n)), number(m)) }
	swell := func(n int) api.Type { return app(con("Swell"), wide(n)) } // from 2^(n+1)+1 nodes to 4*2^(n+1)+5 or so
	for i, row := range []struct {
		t api.Type
		e api.Errno
	}{
		{plus(20, 18), api.OK}, {plus(20, 19), api.ErrFull}, {plus(1, 37), api.OK}, {plus(37, 1), api.OK}, {app(con("Id"), plus(19, 18)), api.OK}, {app(con("Id"), plus(19, 19)), api.ErrFull},
		{swell(6), api.OK}, {swell(7), api.ErrFull}, {app(app(con("Const"), con("Int")), swell(7)), api.ErrFull}, {app(app(con("P"), swell(5)), wide(7)), api.OK}, {app(app(con("P"), swell(6)), wide(7)), api.ErrFull},
		{app(con("Under"), bound(9999)), api.ErrFull}, {app(con("Under"), bound(9998)), api.OK}, {app(con("Id"), bound(9999)), api.OK}, {app(con("Under"), meta(9999)), api.OK},
	} {
		if got, _, e := Normal(env, row.t); e != row.e || e != api.OK && !types.Same(got, api.Type{}) {
			t.Error(i, show(got), e)
		}
	}
}

func TestStep(t *testing.T) {
	env := text.Families(source)
	for _, row := range []struct {
		name string
		args []api.Type
		want string
		n    int
		e    api.Errno
	}{
		{"Plus", reads("'S r0", "Id 'Z"), "'S (Plus r0 (Id 'Z))", 1, api.OK}, {"Plus", reads("'Z", "Loop"), "Loop", 0, api.OK}, {"Plus", reads("Id 'Z", "'Z"), "", 0, api.ErrNone},
		{"Eq", reads("Int", "Bool"), "'False", 1, api.OK}, {"Eq", reads("r0", "Int"), "", 0, api.ErrNone}, {"One", nil, "Id Int", 0, api.OK}, {"Stuck", nil, "", 0, api.ErrNone},
		{"Three", reads("Int", "IO v0", "v1"), "v1", 2, api.ErrNone}, {"Three", reads("Int", "IO v0", "Unit"), "Unit", 2, api.OK},
		{"Plus", reads("'Z"), "", 0, api.ErrForm}, {"Plus", reads("'Z", "'Z", "'Z"), "", 0, api.ErrForm}, {"Stuck", reads("Int"), "", 0, api.ErrForm}, {"Missing", reads("Int"), "", 0, api.ErrNone}, {"Nat", nil, "", 0, api.ErrNone}, {"Shadow", reads("Int"), "", 0, api.ErrNone}, {"", nil, "", 0, api.ErrNone},
		{"Under", list(bound(9999)), "", 0, api.ErrFull}, {"Swell", list(wide(8)), "", 0, api.ErrFull}, {"Const", list(wide(8), deep(40)), show(wide(8)), 0, api.OK}, {"Const", list(bound(9999), deep(40)), "v9999", 0, api.OK},
	} {
		got, n, e := Step(env, row.name, row.args)
		if e != row.e {
			t.Error(row.name, row.args, show(got), n, e)
		} else if e != api.OK && (n != 0 || !types.Same(got, api.Type{})) || e == api.OK && (n != row.n || !types.Same(got, read(row.want))) {
			t.Error(row.name, row.args, show(got), n)
		}
	}
}

func TestMatch(t *testing.T) {
	env := text.Families(source)
	for _, row := range []struct {
		name string
		n    int
		args []api.Type
		want []api.Type // nil: it does not match
	}{
		{"Plus", 0, reads("'Z", "m0"), reads("m0")}, {"Plus", 1, reads("'S v4", "m0"), reads("v4", "m0")}, {"Plus", 1, reads("'Z", "m0"), nil}, {"Plus", 0, reads("m0", "m0"), nil}, {"Plus", 1, reads("Plus 'S r0", "m0"), nil},
		{"Eq", 0, reads("Int", "Int"), reads("Int")}, {"Eq", 0, reads("forall a. a -> v2", "forall b. b -> v2"), reads("forall a. a -> v2")}, {"Eq", 0, reads("Int", "Bool"), nil}, {"Eq", 1, reads("Int", "Bool"), reads("Int", "Bool")}, {"Eq", 0, reads("Id Int", "Int"), nil}, {"Eq", 0, reads("Id Int", "Id Int"), reads("Id Int")},
		{"Elem", 0, reads("List Loop"), reads("Loop")}, {"Elem", 0, reads("List"), nil}, {"Elem", 0, reads("List Int Int"), nil}, {"Elem", 1, reads("P Bool Int"), reads("P Bool")}, {"Elem", 1, reads("Id Int"), nil}, {"Elem", 1, reads("Id List Int"), reads("Id List")}, {"Elem", 1, reads("Const Int"), reads("Const")}, {"Elem", 1, reads("Const List Int Int"), reads("Const List Int")}, {"Elem", 1, reads("Const List Int"), nil},
		{"Elem", 2, reads("Int -> Bool"), reads("Int", "Bool")}, {"Elem", 2, reads("Int => Bool"), nil}, {"Elem", 1, reads("forall a. a"), nil}, {"One", 0, nil, []api.Type{}},
	} {
		got, ok, e := Match(env, row.name, row.n, row.args)
		if e != api.OK || ok != (row.want != nil) || !slices.EqualFunc(got, row.want, types.Same) {
			t.Error(row.name, row.n, row.args, got, ok, e)
		}
	}
}

// TestUnused: an equation with a variable that is not on its left side never matches, but arguments can be apart from it.
func TestUnused(t *testing.T) {
	star := con("Type")
	env := api.Env{Families: []api.Family{{Name: "F", Kind: star, Arity: 1, Eqs: []api.Axiom{
		{Vars: list(star, star), Left: list(app(con("A"), bound(0))), Right: con("Int")},
		{Vars: list(star), Left: list(bound(0)), Right: con("Bool")},
	}}}}
	if l, ok, e := Match(env, "F", 0, reads("A Int")); ok || len(l) > 0 || e != api.OK {
		t.Error(l, ok, e)
	}
	if apart, e := Apart(env, "F", 0, reads("A Int")); apart || e != api.OK {
		t.Error(apart, e)
	}
	if _, _, e := Step(env, "F", reads("A Int")); e != api.ErrNone {
		t.Error(e)
	}
	if got, n, e := Step(env, "F", reads("B Int")); show(got) != "Bool" || n != 1 || e != api.OK {
		t.Error(show(got), n, e)
	}
}

// TestManyVariables: an equation can have more variables than a list of types may have elements.
func TestManyVariables(t *testing.T) {
	var f api.Axiom
	var args []api.Type
	for i := range 40 {
		left, arg := con("A"), con("A")
		for j := range 30 {
			left, arg = app(left, bound(30*i+j)), app(arg, rigid(30*i+j))
		}
		f.Left, args = append(f.Left, left), append(args, arg)
	}
	for range 1200 {
		f.Vars = append(f.Vars, con("Type"))
	}
	f.Right = app(app(bound(1199), bound(0)), bound(600))
	env := api.Env{Families: []api.Family{{Name: "F", Arity: 40, Eqs: []api.Axiom{f}}}}
	if got, _, e := Step(env, "F", args); e != api.OK || show(got) != "rigid1199 rigid0 rigid600" {
		t.Error(show(got), e)
	}
	l, ok, e := Match(env, "F", 0, args)
	if !ok || e != api.OK || len(l) != 1200 || show(l[0]) != "rigid1199" || show(l[1199]) != "rigid0" {
		t.Error(len(l), ok, e)
	}
}

// pairs are types that clash and types that do not.
func pairs() map[bool][][2]string {
	return map[bool][][2]string{
		true: {
			{"Int", "Bool"}, {"Int", "List Int"}, {"List", "List Int"}, {"List Int", "List Bool"}, {"List Int", "IO Int"}, {"P m0 Int", "P Int Bool"}, {"P m0 Int", "r0 Bool"}, {"m0 Int", "m0 Bool"}, {"m0 Int", "IO Bool"}, {"Int", "m0 Int"},
			{"forall a. a", "Int"}, {"forall a. a", "List Int"}, {"Int => Int", "Int"}, {"Int => Int", "List Int"}, {"forall a. a", "Int => Int"}, {"forall a. a", "m0 r0"}, {"List (forall a. a)", "List (Int => Int)"},
			{"Int", "Const Int"}, {"Int", "Id Int Int"}, {"Const Int", "forall a. a"}, {"Id Int Int", "Id Bool Bool"}, {"Const Int", "Const Bool"}, {"'Z", "'S 'Z"}, {"'Z", "Z"}, {"Shadow", "Int"}, {"Shadow Int", "Int"}, {"Shadow Int", "Shadow Bool"}, {"P Stuck Int", "P Int Bool"},
		},
		false: {
			{"Int", "Int"}, {"m0", "Int"}, {"r0", "r1"}, {"v0", "v1"}, {"v0", "forall a. a"}, {"List m0", "List Int"}, {"r0", "List Int"}, {"m0 Int", "m0 Int"}, {"r0 Int", "r1 Int"}, {"m0 Int", "List m1"}, {"List m0", "m1 Int"},
			{"Id Int", "Bool"}, {"Stuck", "Int"}, {"Stuck", "List Int"}, {"Id Int", "List Int"}, {"Id Int", "Id Bool"}, {"Id Int", "forall a. a"}, {"List (Id Int)", "List Bool"}, {"P (Id Int) Int", "P Bool Int"}, {"Id Int Int", "List Int"},
			{"Id", "Int"}, {"Id", "Const"}, {"Id", "List Int"}, {"Const", "forall a. a"}, {"Id m0 Int", "r0 Int"}, {"forall a. a", "forall a. Int"}, {"Int => Int", "Bool => Bool"}, {"forall (a : Int). a", "forall (a : Bool). a"}, {"r0", "Int => Int"}, {"Const Int", "Const m0"}, {"Const Int", "r0 Int"},
		},
	}
}

func TestClash(t *testing.T) {
	env := text.Families(source)
	for want, rows := range pairs() {
		for _, row := range rows {
			a, e := Clash(env, read(row[0]), read(row[1]))
			b, e2 := Clash(env, read(row[1]), read(row[0]))
			if a != want || b != want || e != api.OK || e2 != api.OK {
				t.Error(row, a, b, e, e2)
			}
			// what clashes would be two types for one variable of the equation Eq a a
			apart, e := Apart(env, "Eq", 0, reads(row[0], row[1]))
			if apart != want || e != api.OK {
				t.Error("apart:", row, apart, e)
			}
		}
	}
}

func TestApart(t *testing.T) {
	env := text.Families(source)
	for want, rows := range map[bool][][]string{
		true: {
			{"Plus", "0", "'S m0", "m1"}, {"Plus", "1", "'Z", "m1"}, {"Plus", "1", "Int Int", "m1"}, {"Plus", "0", "forall a. a", "m1"}, {"Plus", "1", "Int => Int", "m0"},
			{"Elem", "0", "IO r0"}, {"Elem", "0", "Int"}, {"Elem", "1", "IO Bool"}, {"Elem", "1", "r0 Bool"}, {"Elem", "2", "IO Int"}, {"Elem", "2", "Id Int r0 m0 Bool"},
			{"Three", "0", "Int", "Bool", "m0"}, {"Three", "0", "Int", "m0", "Bool"}, {"Three", "0", "m0", "Int", "Bool"}, {"Three", "0", "P m0 Int", "P Bool m0", "P m1 Bool"}, {"Three", "1", "m0", "m0", "Bool"},
		},
		false: {
			{"Plus", "0", "'Z", "m1"}, {"Plus", "0", "m0", "m1"}, {"Plus", "1", "r0", "m1"}, {"Plus", "1", "r0 r1", "m1"}, {"Plus", "1", "Plus 'Z 'Z", "m0"}, {"Plus", "0", "Plus 'Z 'Z", "m0"}, {"Plus", "0", "Id", "m0"}, {"Plus", "1", "Stuck", "m0"},
			{"Elem", "0", "List r0"}, {"Elem", "0", "r0 Int"}, {"Elem", "0", "Id Int"}, {"Elem", "0", "Id Int Int"}, {"Elem", "1", "IO r0"}, {"Elem", "1", "r0"}, {"Elem", "2", "r0 m0 Int"}, {"Elem", "2", "r0 m0"}, {"Elem", "2", "r0 Bool"}, {"Elem", "2", "Id r0 m0"},
			{"Three", "0", "m0", "m1", "Bool"}, {"Three", "0", "m0", "m0", "m0"}, {"Three", "0", "Stuck", "Int", "Int"}, {"Three", "0", "P m0 Int", "P Bool m0", "P m1 Int"}, {"Three", "2", "Int", "Bool", "Unit"},
		},
	} {
		for _, row := range rows {
			n := int(row[1][0] - '0')
			apart, e := Apart(env, row[0], n, reads(row[2:]...))
			if apart != want || e != api.OK {
				t.Error(row, apart, e)
			}
		}
	}
}

func TestPlain(t *testing.T) {
	env := text.Families(source)
	for want, rows := range map[bool][]string{
		true:  {"Int", "Id", "Const Int", "P Id Plus", "forall a. a -> m0", "r0 v0", "Shadow Int", "Missing Int", "'Z ~ 'S"},
		false: {"Stuck", "Id Int", "Id Int Int", "List (Id Int)", "Id (List Int)", "forall (a : Stuck). a", "forall a. Id a", "Id Int => Int", "Int => Stuck", "Const (Const Int Int)", "Plus m0 r0"},
	} {
		for _, row := range rows {
			if plain, e := Plain(env, read(row)); plain != want || e != api.OK {
				t.Error(row, plain, e)
			}
		}
	}
}

func TestOverlaps(t *testing.T) {
	env := text.Families(source + `
		family Many : Type -> Type -> Type { Many Int a = a; Many a Int = a; Many (f a) a = f a; Many Bool Bool = Int; Many a b = b; Many (IO a) (List b) = a; Many b b = b; };
	`)
	for name, want := range map[string][][2]int{
		"Plus": nil, "Eq": {{0, 1}}, "Elem": {{0, 1}, {1, 2}}, "Const": nil, "Stuck": nil, "Three": {{0, 1}, {0, 2}, {1, 2}},
		"Many": {{0, 1}, {0, 4}, {0, 6}, {1, 2}, {1, 4}, {1, 6}, {2, 4}, {2, 5}, {2, 6}, {3, 4}, {3, 6}, {4, 5}, {4, 6}},
	} {
		if got, e := Overlaps(env, name); e != api.OK || !slices.Equal(got, want) {
			t.Error(name, got, e)
		}
	}
	for _, name := range []string{"Missing", "Shadow", "Nat", "Int", "", "~"} {
		if got, e := Overlaps(env, name); e != api.ErrNone || len(got) > 0 {
			t.Error(name, got, e)
		}
	}
}
