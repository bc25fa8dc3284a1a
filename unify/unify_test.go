package unify

import (
	"slices"
	"testing"

	"damask/api"
	"damask/internal/problem"
	"damask/internal/text"
	"damask/types"
)

func TestUnify(t *testing.T) {
	env := problem.Env(problem.World)
	for _, row := range []struct {
		problem       string
		imp           int
		a, b          string
		changes, left string
	}{
		{"meta Type; meta Type;", -1, "m0 -> Int", "Bool -> m1", "m0 = Bool, m1 = Int", ""},
		// the same
		{"", -1, "Int", "Int", "", ""}, {"meta Type;", -1, "Elem m0", "Elem m0", "", ""}, {"meta Type = Int;", -1, "m0", "Int", "", ""}, {"rigid Type; imp -1: r0 ~ Int;", 0, "Int -> r0", "r0 -> Int", "", ""}, {"", -1, "Elem (List Int)", "Int", "", ""},
		// of two metavariables the one with the greater level, and then with the greater number
		{"meta Type; meta Type;", -1, "m0", "m1", "m1 = meta0", ""}, {"meta Type; meta Type;", -1, "m1", "m0", "m1 = meta0", ""}, {"meta Type @1; meta Type;", -1, "m0", "m1", "m0 = meta1", ""}, {"meta Type @1; meta Type;", -1, "m1", "m0", "m0 = meta1", ""}, {"meta Type; meta Type @1;", -1, "m0", "m1", "m1 = meta0", ""},
		// touchable ones alone
		{"meta Type; imp -1: Int ~ Int;", 0, "m0", "Int", "", "0: meta0 ~ Int"}, {"meta Type; imp -1: Int ~ Int;", -1, "m0", "Int", "m0 = Int", ""}, {"meta Type @1; imp -1: Int ~ Int;", 0, "Int", "m0", "m0 = Int", ""}, {"meta Type; imp -1: Eq m0;", 0, "m0", "Int", "m0 = Int", ""},
		{"meta Type; meta Type; imp -1: Int ~ Int;", 0, "m0", "m1", "", "0: meta0 ~ meta1"}, {"meta Type; meta Type @1; imp -1: Int ~ Int;", 0, "m0", "m1", "m1 = meta0", ""}, {"meta Type @1; meta Type; imp -1: ; imp 0: Int ~ Int;", 1, "m0", "m1", "", "1: meta0 ~ meta1"},
		// which do not occur in the other side, that is no forall and no implication itself
		{"meta Type;", -1, "m0", "List m0", "", "-1: meta0 ~ List meta0"}, {"meta Type;", -1, "Elem m0", "m0", "", "-1: Elem meta0 ~ meta0"}, {"meta Type;", -1, "m0", "forall a. a -> m0", "", "-1: meta0 ~ (forall a. a -> meta0)"}, {"meta Type;", -1, "m0", "forall a. a", "", "-1: meta0 ~ (forall a. a)"}, {"meta Type;", -1, "Eq Int => Int", "m0", "", "-1: (Eq Int => Int) ~ meta0"}, {"meta Type;", -1, "m0", "List (forall a. Eq a => a)", "m0 = List (forall a. Eq a => a)", ""}, {"meta Type; meta Type = List m0;", -1, "m0", "Pair m1 Int", "", "-1: meta0 ~ Pair (List meta0) Int"},
		// with rigid variables that are there where they are, also in the kinds of what is in the other side
		{"meta Type; rigid Type @1;", -1, "m0", "r0", "", "-1: meta0 ~ rigid0"}, {"meta Type @1; rigid Type @1;", -1, "m0", "List r0", "m0 = List rigid0", ""}, {"meta Type @1; rigid Type @2;", -1, "m0", "List r0", "", "-1: meta0 ~ List rigid0"}, {"meta Type @1; rigid Type @2;", -1, "m0", "forall a. a -> r0", "", "-1: meta0 ~ (forall a. a -> rigid0)"},
		{"meta Type; meta r0 -> Type @3; meta r0 @3; rigid Type @2;", -1, "m0", "m1 m2", "", "-1: meta0 ~ meta1 meta2"}, {"meta Type @2; meta r0 -> Type @3; meta r0 @3; rigid Type @2;", -1, "m0", "m1 m2", "m0 = meta1 meta2, m1 @2, m2 @2", ""}, {"meta Type; meta m2 -> Type @3; meta r0 @3; meta m2 @3; rigid Type @2;", -1, "m0", "m1 m3", "", "-1: meta0 ~ meta1 meta3"}, {"meta Type @2; meta m2 -> Type @3; meta r0 @3; meta m2 @3; rigid Type @2;", -1, "m0", "m1 m3", "m0 = meta1 meta3, m1 @2, m2 @2, m3 @2", ""}, {"meta Type; meta m2 -> Type @3; meta Type = r0; meta m2 @3; rigid Type @2;", -1, "m0", "m1 m3", "", "-1: meta0 ~ meta1 meta3"}, {"meta m1; meta m0 @1;", -1, "m0", "m1", "", "-1: meta0 ~ meta1"}, {"meta Type; meta m2 -> Type @3; meta m3 @3; meta m2 @3;", -1, "m0", "m1 m3", "m0 = meta1 meta3, m1 @0, m2 @0, m3 @0", ""},
		// and of its kind
		{"meta Nat;", -1, "m0", "Int", "", "-1: meta0 ~ Int"}, {"meta Type -> Type;", -1, "m0", "List Int", "", "-1: meta0 ~ List Int"}, {"meta Type -> Type;", -1, "Pair Int", "m0", "m0 = Pair Int", ""}, {"meta m1; meta Type = Nat;", -1, "m0", "'Z", "m0 = 'Z", ""}, {"meta m1; meta Type;", -1, "m0", "'Z", "", "-1: meta0 ~ 'Z"}, {"meta Nat; meta m2; meta Type = Nat;", -1, "m0", "m1", "m1 = meta0", ""}, {"meta Type; meta m2 @1; meta Type = Nat;", -1, "m0", "Proxy Nat m1", "m0 = Proxy Nat meta1, m1 @0", ""}, {"meta Type; rigid m1; meta Type = Nat;", -1, "m0", "Vec Int r0", "m0 = Vec Int rigid0", ""}, {"meta Type; meta m2; meta Type;", -1, "m0", "Proxy m2 m1", "m0 = Proxy meta2 meta1", ""}, {"meta Constraint;", -1, "m0", "Int ~ Bool", "m0 = Int ~ Bool", ""},
		// what becomes a value has a level that is not greater
		{"meta Type @1; meta Type @3; meta Type @2; meta Type;", -1, "m0", "Pair m1 (m2 -> m3)", "m0 = Pair meta1 (meta2 -> meta3), m1 @1, m2 @1", ""}, {"meta Type @1; meta Type @3;", -1, "m0", "m1", "m1 = meta0", ""}, {"meta Type @1; meta Type @2; rigid Type @2;", -1, "Pair m0 m1", "Pair (List m1) r0", "m0 = List meta1, m1 @1", "-1: meta1 ~ rigid0"},
		// parts, the functions first
		{"meta Type -> Type; meta Type;", -1, "m0 m1", "List Int", "m0 = List, m1 = Int", ""}, {"meta Type; rigid Type; rigid Type;", -1, "Pair r0 (Pair m0 r1)", "Pair Int (Pair (List m0) Bool)", "", "-1: rigid0 ~ Int, -1: meta0 ~ List meta0, -1: rigid1 ~ Bool"}, {"meta Type; meta Type;", -1, "Pair m0 m0", "Pair m1 Int", "m0 = Int, m1 = meta0", ""}, {"meta Type; meta Type;", -1, "Eq m0 => m1", "Eq Int => List m0", "m0 = Int, m1 = List Int", ""}, {"meta Type;", -1, "Eq m0 => Int", "Ord Int => Bool", "m0 = Int", "-1: Eq ~ Ord, -1: Int ~ Bool"}, {"", -1, "Int ~ Bool", "Int ~ Int", "", "-1: Bool ~ Int"},
		{"meta Type;", -1, "Box 'Z m0", "List Int", "m0 = Int", ""}, {"meta Nat; meta Type;", -1, "Box m0 m1", "List Int", "m1 = Int", "-1: Box meta0 ~ List"},
		// family types have none
		{"meta Type; meta Type;", -1, "Elem m0", "Elem m1", "", "-1: Elem meta0 ~ Elem meta1"}, {"meta Type;", -1, "Elem m0", "Int", "", "-1: Elem meta0 ~ Int"}, {"meta Type;", -1, "Elem (List m0)", "Int", "m0 = Int", ""}, {"meta Type; meta Type;", -1, "List (Elem m0)", "List m1", "m1 = Elem meta0", ""}, {"meta Type; meta Type;", -1, "Pair (Elem m0) m0", "Pair Int (List m1)", "m0 = List meta1", "-1: Elem meta0 ~ Int"}, {"meta Type; meta Type;", -1, "Pair m0 (Elem m0)", "Pair (List m1) Int", "m0 = List meta1, m1 = Int", ""},
		// under rules, which are those of what is known then
		{"meta Type @1; rigid Type; imp -1: r0 ~ Int;", 0, "m0", "List r0", "m0 = List Int", ""}, {"meta Type @1; rigid Type; imp -1: r0 ~ m0;", 0, "r0", "Int", "m0 = Int", ""}, {"meta Type @1; rigid Type; imp -1: Elem r0 ~ m0;", 0, "Pair m0 (Elem r0)", "Pair Bool Bool", "m0 = Bool", ""}, {"meta Type @1; rigid Type; imp -1: m0 ~ List r0;", 0, "Pair m0 r0", "Pair (List Int) Int", "m0 = List Int", ""}, {"rigid Type; rigid Type; imp -1: r0 ~ List Int; imp -1: r0 ~ r1;", 1, "List r0", "List Int", "", "1: rigid0 ~ Int"},
		// foralls, with a rigid variable that nothing outside can become
		{"meta Type;", -1, "forall a. a -> m0", "forall a. a -> Int", "m0 = Int, r0 : Type @1", ""}, {"meta Type;", -1, "forall a. m0", "forall a. a", "r0 : Type @1", "-1: meta0 ~ rigid0"}, {"meta Type @5; rigid Type @7;", -1, "forall a. List a", "forall a. a", "r1 : Type @8", "-1: List rigid1 ~ rigid1"}, {"meta Type @5 = Int; rigid Type @3; imp -1: ;", 0, "forall a b. a", "forall a b. b", "r1 : Type @6, r2 : Type @7", "0: rigid1 ~ rigid2"}, {"meta Type;", -1, "forall (a : m0). Proxy m0 a", "forall (a : Nat). Proxy Nat a", "m0 = Nat, r0 : Nat @1", ""}, {"", -1, "forall (a : Nat). Int", "forall a. Int", "r0 : Nat @1", "-1: Nat ~ Type"}, {"meta Type; meta Type = Nat;", -1, "forall (a : m1). Vec m0 a", "forall (a : m1). Vec Int a", "m0 = Int, r0 : Nat @1", ""}, {"", -1, "forall a. a -> Elem (List a)", "forall a. Elem (List a) -> a", "", ""}, {"", -1, "forall a. a -> Int", "forall a. Elem (Pair (List a) a) -> Int", "", ""},
		// all else is left
		{"", -1, "Int", "Bool", "", "-1: Int ~ Bool"}, {"rigid Type; imp -1: Eq r0;", 0, "r0", "Int", "", "0: rigid0 ~ Int"}, {"rigid Type; rigid Type;", -1, "r1", "r0", "", "-1: rigid1 ~ rigid0"}, {"", -1, "Int", "List Int", "", "-1: Int ~ List Int"}, {"", -1, "forall a. a", "Eq Int => Int", "", "-1: (forall a. a) ~ (Eq Int => Int)"}, {"", -1, "List Int", "Eq Int => Int", "", "-1: List Int ~ (Eq Int => Int)"}, {"rigid Type; imp -1: r0 ~ Elem (List Bool);", 0, "r0 -> Elem (List Int)", "Int -> r0", "", "0: Bool ~ Int, 0: Int ~ Bool"},
	} {
		p := problem.Read(row.problem)
		p.Wants = []api.Want{{Imp: -1, Type: read("Eq (Elem (List Int))")}}
		q, left, e := Unify(env, p, row.imp, read(row.a), read(row.b))
		if e != api.OK {
			t.Error(row, e)
			continue
		}
		if got := problem.Changes(p, q); got != row.changes || problem.Wants(left) != row.left {
			t.Errorf("%s: %s and %s: %s; left %s", row.problem, row.a, row.b, got, problem.Wants(left))
		}
		q.Metas, q.Rigids = p.Metas, p.Rigids
		if problem.Show(p) != problem.Show(q) {
			t.Error("something else has changed:", problem.Show(q))
		}
	}
}

// TestErrors: those of layers 5 to 7 are found on the way; what is left for another reason has no kind that could be wrong.
func TestErrors(t *testing.T) {
	env := problem.Env(problem.World)
	large := "meta Type; meta Type; meta Type = Pair m3 m3; meta Type = Pair m4 m4; meta Type = Pair m5 m5; meta Type = Pair m6 m6; meta Type = Pair m7 m7; meta Type = Pair m8 m8; meta Type = Pair m9 m9; meta Type = Pair m0 m0;"
	for _, row := range []struct {
		problem string
		imp     int
		a, b    string
		want    api.Errno
	}{
		{"meta Type;", -1, "m0", "Missing", api.ErrName}, {"meta Type;", -1, "List Missing", "m0", api.ErrName}, {"meta Type;", -1, "m0", "List List", api.ErrKind}, {"meta Type -> Type;", -1, "m0", "Elem", api.ErrForm}, {"meta Type;", -1, "m0 Int", "Int ~ Bool", api.ErrForm}, {"meta Type;", -1, "Pair m0 Missing", "Pair Missing m0", api.ErrName}, {"meta Type;", -1, "Missing", "Missing", api.OK}, {"", -1, "Missing", "List List", api.OK},
		{"meta Type; imp -1: Int ~ Int;", 0, "m0", "Missing", api.OK}, {"meta Type;", -1, "m0", "forall a. Missing", api.OK}, {"meta Type;", -1, "m0", "Missing => Int", api.OK}, {"meta Type;", -1, "m0", "Missing m0", api.OK}, {"meta Type; rigid Type @1;", -1, "m0", "Missing r0", api.OK}, {"meta Type; meta r0 @1; rigid Type @1;", -1, "m0", "Missing m1", api.OK},
		{"", -1, "Spin", "Int", api.ErrFuel}, {"", -1, "Int", "List Spin", api.ErrFuel}, {"", -1, "Grow Int", "Int", api.ErrFull}, {"", -1, "Grow Int", "Spin", api.ErrFull}, {"", -1, "Spin", "Grow Int", api.ErrFuel}, {"meta Type;", -1, "Pair m0 Int", "Pair Int Spin", api.ErrFuel}, {"meta Type = Spin;", -1, "m0", "Int", api.ErrFuel}, {"rigid Type; imp -1: r0 ~ Spin;", 0, "Int", "Int", api.ErrFuel}, {"rigid Type; imp -1: Int ~ Bool, Grow Int ~ Bool;", 0, "Int", "Int", api.ErrFull}, {"rigid Type; imp -1: r0 ~ Spin;", -1, "Int", "Int", api.OK}, {"imp -1: Eq Spin;", 0, "Int", "Bool", api.OK},
		{large, -1, "m2", "Int", api.ErrFull}, {large, -1, "m3", "Int", api.OK}, {large, -1, "Int", "Pair m3 m3", api.ErrFull}, {large + "imp -1: m2 ~ Int;", 0, "Int", "Int", api.ErrFull}, {large + "rigid m2;", -1, "m0", "Pair m1 r0", api.ErrFull}, {large + "meta m2;", -1, "m0", "Pair m1 m10", api.ErrFull},
	} {
		p := problem.Read(row.problem)
		if e := answers(t, env, p, row.imp, 0, read(row.a), read(row.b))["Unify"]; e != row.want {
			t.Error(row.problem, row.a, row.b, e)
		}
	}
	p := problem.Read("rigid Type; imp -1: Int ~ Bool, r0 ~ Spin;")
	for call, e := range answers(t, env, p, 0, 0, con("Int"), con("Int")) {
		want := api.ErrFuel
		switch call {
		case "Check", "Level":
			want = api.OK
		case "Touchable":
			want = api.ErrNone
		}
		if e != want {
			t.Error(call, e)
		}
	}
	for call, e := range answers(t, env, api.Problem{}, -1, 0, con("Int"), con("Spin")) {
		if (e == api.ErrFuel) != (call == "Unify" || call == "Holds") {
			t.Error(call, e)
		}
	}
}

// TestNewRigid: one rigid variable more than 400 is too many, and so is a level greater than 400.
func TestNewRigid(t *testing.T) {
	env := problem.Env(problem.World)
	a, b := read("forall a. a"), read("forall a. Int")
	star := con("Type")
	for _, row := range []struct {
		rigids, level, meta int
		want                api.Errno
	}{{399, 0, 0, api.OK}, {400, 0, 0, api.ErrFull}, {1, 399, 0, api.OK}, {1, 400, 0, api.ErrFull}, {1, 0, 399, api.OK}, {1, 0, 400, api.ErrFull}} {
		p := api.Problem{Metas: []api.Meta{{Kind: star, Level: row.meta}}, Rigids: slices.Repeat([]api.Rigid{{Kind: star, Level: row.level}}, row.rigids)}
		q, left, e := Unify(env, p, -1, a, b)
		if e != row.want || e == api.OK && (len(left) != 1 || q.Rigids[row.rigids].Level != 1+max(row.level, row.meta)) {
			t.Error(row, left, e)
		}
		if _, _, e := Unify(env, p, -1, a, a); e != api.OK {
			t.Error(row, e)
		}
		if _, _, e := Unify(env, p, -1, app(app(con("Pair"), a), con("Spin")), app(app(con("Pair"), b), con("Int"))); e != api.ErrFuel {
			t.Error(row, e)
		}
	}
	// what is behind the list in its memory stays as it is
	spare := make([]api.Rigid, 1, 3)
	spare[0].Kind = star
	if q, _, e := Unify(env, api.Problem{Rigids: spare}, -1, a, b); e != api.OK || len(q.Rigids) != 2 || spare[:2][1].Level != 0 {
		t.Error(q, spare[:2], e)
	}
	// the solved one counts, too
	p := problem.Read("meta Type @400 = Int;")
	if _, _, e := Unify(env, p, -1, a, b); e != api.ErrFull {
		t.Error(e)
	}
}

// TestPairs: at most 1000 pairs of types are unified in one call. Each of them that has parts leads to two others, so that they are an odd number.
func TestPairs(t *testing.T) {
	env := problem.Env(problem.World)
	for _, row := range []struct {
		times, leaves int
		want          api.Errno
	}{{7, 36, api.OK}, {6, 42, api.ErrFuel}} { // 5 pairs, and each time 4 for a leaf but 2: 999, and 1001
		p := problem.Read("meta Type; meta Type; rigid Type; rigid Type;")
		a, b := app(app(con("T"), meta(0)), meta(1)), app(app(con("T"), pairs(row.leaves, rigid(0))), pairs(row.leaves, rigid(1)))
		for range row.times {
			a, b = app(a, meta(0)), app(b, meta(1))
		}
		_, left, e := Unify(env, p, -1, a, b)
		if e != row.want || e == api.OK && len(left) != row.times*row.leaves {
			t.Error(row, len(left), e)
		}
	}
}

// pairs is a type with so many leaves, and four times as many nodes without three.
func pairs(leaves int, leaf api.Type) api.Type {
	if leaves == 1 {
		return leaf
	}
	return app(app(con("Pair"), pairs(leaves/2, leaf)), pairs(leaves-leaves/2, leaf))
}

// TestLeftAsItIs: an equation that is left can be too large for a type.
func TestLeftAsItIs(t *testing.T) {
	env := problem.Env(problem.World)
	p := problem.Read("rigid Type;")
	a, b := app(con("Elem"), tree(200, rigid(0))), tree(150, rigid(0))
	q, left, e := Unify(env, p, -1, a, b)
	if e != api.OK || len(left) != 1 || types.Check(left[0].Type) == api.OK || !types.Same(left[0].Type, problem.Equation(a, b)) || Check(q) != api.OK {
		t.Error(left, e)
	}
}

// TestAnything: what an open metavariable has as its value is returned as it was.
func TestAnything(t *testing.T) {
	env := problem.Env(problem.World)
	p := problem.Read("meta Type; meta Type; imp -1: Eq m0;")
	p.Metas[0].Value = api.Type{Op: 99, N: -5, S: "x", Args: list(api.Type{Op: api.YAll, S: "a"}, meta(77), text.Deep(100))}
	p.Metas[1].Value = p.Metas[0].Value
	q, _, e := Unify(env, p, -1, meta(1), con("Int"))
	if e != api.OK || !types.Same(q.Metas[0].Value, p.Metas[0].Value) || show(q.Metas[1].Value) != "Int" {
		t.Error(q, e)
	}
}
