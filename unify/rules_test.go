package unify

import (
	"slices"
	"strings"
	"testing"

	"damask/api"
	"damask/internal/problem"
	"damask/types"
)

const variables = "meta Type @1; meta Type -> Type; meta Type = List Int; rigid Type; rigid Type; rigid Type; rigid Nat; rigid Nat;"

func TestRules(t *testing.T) {
	env := problem.Env(problem.World)
	for _, row := range []struct {
		given, want string // with a ! at the end, if it is impossible
	}{
		{"", ""}, {"Int ~ Int", ""}, {"Eq r0, Empty, forall a. a ~ r0, (r0 ~ r1) Int, List (r0 ~ Int)", ""},
		// a rigid variable is left, the one with the greater number, and then a family type, the later one
		{"r0 ~ Int", "rigid0 to Int"}, {"Int ~ r0", "rigid0 to Int"}, {"r0 ~ r1", "rigid1 to rigid0"}, {"r1 ~ r0", "rigid1 to rigid0"}, {"r0 ~ m0", "rigid0 to meta0"}, {"m0 ~ r0", "rigid0 to meta0"},
		{"Elem r0 ~ Int", "Elem rigid0 to Int"}, {"Int ~ Elem r0", "Elem rigid0 to Int"}, {"Elem r0 ~ m0", "Elem rigid0 to meta0"}, {"r1 ~ Elem r0", "rigid1 to Elem rigid0"}, {"Elem r0 ~ r1", "rigid1 to Elem rigid0"},
		{"Plus r3 'Z ~ Plus r4 r3", "Plus rigid4 rigid3 to Plus rigid3 'Z"}, {"Plus r4 r3 ~ Plus r3 'Z", "Plus rigid4 rigid3 to Plus rigid3 'Z"}, {"Elem r1 ~ Elem (Elem r0)", "Elem (Elem rigid0) to Elem rigid1"}, {"Elem (Elem r0) ~ Elem r0", "Elem (Elem rigid0) to Elem rigid0"},
		{"Some ~ Elem r0", "Elem rigid0 to Some"}, {"Box r3 ~ List", "Box rigid3 to List"}, {"Box r3 Int ~ List Int", "Box rigid3 to List"}, {"Box r3 r0 ~ List Int", "Box rigid3 to List, rigid0 to Int"},
		// sides are resolved, and normal under the rules so far
		{"r0 ~ m2", "rigid0 to List Int"}, {"r0 ~ Elem m2", "rigid0 to Int"}, {"Plus ('S r3) 'Z ~ 'S r4", "rigid4 to Plus rigid3 'Z"}, {"r0 ~ Int, r1 ~ r0", "rigid0 to Int, rigid1 to Int"}, {"r0 ~ Int, r0 ~ r1", "rigid0 to Int, rigid1 to Int"}, {"r0 ~ Int, r0 ~ Int", "rigid0 to Int"}, {"r0 ~ Int, Elem (List r1) ~ Elem (List r0)", "rigid0 to Int, rigid1 to Int"},
		{"Elem r0 ~ List r1, Elem (Elem r0) ~ Int", "rigid1 to Int, Elem rigid0 to List Int"},
		// what a new rule leads further is an equation again, before all others
		{"r1 ~ r0, r0 ~ Int", "rigid0 to Int, rigid1 to Int"}, {"r1 ~ List r0, r2 ~ Pair r0 r0, r0 ~ Bool", "rigid0 to Bool, rigid1 to List Bool, rigid2 to Pair Bool Bool"}, {"r1 ~ List r0, r0 ~ Int, r2 ~ r1", "rigid0 to Int, rigid1 to List Int, rigid2 to List Int"},
		{"r2 ~ Int, r1 ~ List r0, r0 ~ Int", "rigid2 to Int, rigid0 to Int, rigid1 to List Int"}, {"r1 ~ List r0, r0 ~ Int, r2 ~ Bool", "rigid0 to Int, rigid1 to List Int, rigid2 to Bool"}, {"r1 ~ List r0, Pair r0 r2 ~ Pair Int Bool", "rigid0 to Int, rigid1 to List Int, rigid2 to Bool"},
		{"Plus r3 'Z ~ r4, Plus r3 'Z ~ 'Z", "Plus rigid3 'Z to 'Z, rigid4 to 'Z"}, {"Plus r3 'Z ~ 'Z, r3 ~ 'Z", "rigid3 to 'Z"}, {"Plus r3 'Z ~ 'Z, r3 ~ 'S 'Z", "rigid3 to 'S 'Z!"}, {"Elem r0 ~ Int, r0 ~ r1", "Elem rigid0 to Int, rigid1 to rigid0"}, {"Elem r1 ~ Int, r0 ~ r1", "rigid1 to rigid0, Elem rigid0 to Int"},
		{"Elem (Elem r0) ~ Int, Elem r0 ~ List Bool", "Elem rigid0 to List Bool!"}, {"Elem (Elem r0) ~ Bool, Elem r0 ~ Int", "Elem rigid0 to Int"},
		// parts, the functions first
		{"Pair r0 Int ~ Pair Bool r1", "rigid0 to Bool, rigid1 to Int"}, {"Pair r0 r1 ~ Pair (List r1) Int", "rigid1 to Int, rigid0 to List Int"}, {"m1 r0 ~ m1 Int", "rigid0 to Int"}, {"m1 r0 ~ List Int, r0 ~ Bool", "rigid0 to Int!"}, {"m1 Int ~ List Int", ""}, {"Pair Int (List r0) ~ Pair Int r1, r1 ~ r2", "rigid1 to List rigid0, rigid2 to List rigid0"},
		// nothing
		{"m0 ~ Int", ""}, {"m0 ~ List m0", ""}, {"m1 ~ List", ""}, {"(forall a. a) ~ (forall a. Int)", ""}, {"(Eq r0 => Int) ~ (Eq r1 => Int)", ""}, {"Elem ~ List", ""}, {"r0 ~ Elem r0", ""}, {"Elem r0 ~ r0", ""}, {"r0 ~ List (Elem r0)", ""}, {"Elem r0 ~ List (Elem (Elem r0))", ""},
		// impossible, and what comes after it all the same
		{"Int ~ Bool", "!"}, {"Int ~ List r0", "!"}, {"(forall a. a) ~ Int", "!"}, {"(Eq r0 => r0) ~ List Int", "!"}, {"(Eq r0 => r0) ~ (forall a. a)", "!"}, {"Int ~ Bool, r0 ~ Int", "rigid0 to Int!"}, {"r0 ~ Int, Pair r0 r1 ~ Pair Bool Int", "rigid0 to Int, rigid1 to Int!"}, {"Pair Int r0 ~ List r1", "rigid1 to rigid0!"}, {"m1 Int ~ Int", "!"},
		{"r0 ~ List r0", "!"}, {"r0 ~ List (Elem (List r0))", "!"}, {"r0 ~ Pair (Elem r0) r0", "!"}, {"r0 ~ (forall a. a -> r0)", "!"}, {"r0 ~ (forall (a : r0). Int)", "!"}, {"r0 ~ (Eq r0 => Int)", "!"}, {"Elem r0 ~ List (Elem r0)", "!"}, {"Elem r0 ~ Pair (Elem (Elem r0)) (Elem r0)", "!"}, {"r3 ~ 'S (Plus r3 r4)", ""}, {"Box r3 ~ Pair (Box r3 Int)", "!"}, {"r0 ~ Box r3 r0", "!"}, {"r0 ~ List r1, r1 ~ List r0", "rigid0 to List rigid1!"}, {"r0 ~ List r0, r1 ~ r0", "rigid1 to rigid0!"},
	} {
		p := problem.Read(variables + "imp -1: " + row.given)
		l, impossible, e := Rules(env, p, 0)
		got := problem.Rules(l)
		if impossible {
			got += "!"
		}
		if got != row.want || e != api.OK {
			t.Errorf("%s: %s, error %d", row.given, got, e)
		}
	}
}

// TestChain: what is given outside comes first, and what is given in other implications does not count.
func TestChain(t *testing.T) {
	env := problem.Env(problem.World)
	p := problem.Read(variables + "imp -1: r1 ~ r0; imp 0: r0 ~ Int; imp 0: r0 ~ Bool; imp 1: r2 ~ r1, Eq r2, Int ~ Bool; imp -1: r0 ~ r2;")
	for imp, want := range map[int]string{-1: "", 0: "rigid1 to rigid0", 1: "rigid0 to Int, rigid1 to Int", 2: "rigid0 to Bool, rigid1 to Bool", 3: "rigid0 to Int, rigid1 to Int, rigid2 to Int", 4: "rigid2 to rigid0"} {
		l, impossible, e := Rules(env, p, imp)
		if problem.Rules(l) != want || impossible != (imp == 3) || e != api.OK {
			t.Error(imp, problem.Rules(l), impossible, e)
		}
	}
}

func TestNormal(t *testing.T) {
	env := problem.Env(problem.World)
	p := problem.Read(variables + "imp -1: r0 ~ Int, Elem r1 ~ List r0; imp 0: r3 ~ 'S 'Z, Box r4 ~ List; imp -1: Int ~ Bool, r0 ~ Int; imp -1: m0 ~ Elem r0, r1 ~ m2;")
	for _, row := range []struct {
		imp     int
		t, want string
	}{
		{-1, "List r0", "List rigid0"}, {-1, "m2", "List Int"}, {-1, "Elem m2 -> m0", "Int -> meta0"}, {-1, "Elem r1", "Elem rigid1"}, {0, "List r0", "List Int"}, {0, "r1", "rigid1"}, {0, "Elem r1", "List Int"}, {0, "Elem (Elem r1)", "Int"}, {0, "Elem (Elem (Elem r1))", "Bool"}, {0, "Elem r2", "Elem rigid2"}, {0, "Plus r3 r4", "Plus rigid3 rigid4"}, {0, "Elem r0", "Bool"},
		{1, "Plus r3 r4", "'S rigid4"}, {1, "Elem (Pair r0 Int) -> Box r4 r0", "Bool -> List Int"}, {1, "forall (a : Elem r0). Eq a => Pair a r0", "forall (a : Bool). Eq a => Pair a Int"}, {1, "Box r3 Int", "Pair (Vec Int 'Z) Int"}, {2, "r0 -> Bool", "Int -> Bool"}, {3, "Pair m0 (Elem r0)", "Pair meta0 meta0"}, {3, "r1", "List Int"}, {1, "Same r0 Int", "'True"}, {1, "Same r0 (Elem r1)", "'False"}, {1, "Same r0 r1", "Same Int rigid1"},
	} {
		got, e := Normal(env, p, row.imp, read(row.t))
		if show(got) != row.want || e != api.OK {
			t.Error(row.imp, row.t, show(got), e)
		}
	}
	for _, row := range []struct {
		imp  int
		a, b string
		want bool
	}{
		{-1, "r0", "Int", false}, {0, "r0", "Int", true}, {0, "Int", "r0", true}, {0, "Elem r1", "List Int", true}, {0, "r1", "r2", false}, {-1, "m2", "List (Elem m2)", true}, {0, "m2", "List r0", true}, {-1, "m0", "m0", true}, {-1, "m0", "Int", false}, {2, "Int", "Bool", false}, {0, "forall a. a -> r0", "forall a. a -> Int", true}, {3, "m0", "Elem r0", true},
	} {
		if ok, e := Holds(env, p, row.imp, read(row.a), read(row.b)); ok != row.want || e != api.OK {
			t.Error(row, ok, e)
		}
	}
}

// TestFirstRule: a family type that has a step makes it, also if it is the left of a rule; a rule can only lead from what has none.
func TestFirstRule(t *testing.T) {
	env := problem.Env(problem.World)
	p := problem.Read("meta Type @1; rigid Type; imp -1: Elem m0 ~ Unit;")
	if x, e := Normal(env, p, 0, read("Elem m0")); show(x) != "Unit" || e != api.OK {
		t.Error(show(x), e)
	}
	p.Metas[0].Solved, p.Metas[0].Value = true, con("Int")
	if x, e := Normal(env, p, 0, read("Elem m0")); show(x) != "Bool" || e != api.OK {
		t.Error(show(x), e)
	}
}

// times is a list of so many constraints.
func times(n int, c string) string { return strings.Join(slices.Repeat([]string{c}, n), ", ") }

// TestEquationsTaken: 1000 equations may be taken out of queues in one call, and no more.
func TestEquationsTaken(t *testing.T) {
	env := problem.Env(problem.World)
	rules := func(given string) api.Errno {
		p := problem.Read(variables + "imp -1: " + given)
		l, impossible, e := Rules(env, p, 0)
		if e != api.OK && (l != nil || impossible) {
			t.Error(l, impossible)
		}
		_, e2 := Normal(env, p, 0, con("Int"))
		_, e3 := Holds(env, p, 0, con("Int"), con("Int"))
		_, _, e4 := Unify(env, p, 0, con("Int"), con("Int"))
		if e2 != e || e3 != e || e4 != e {
			t.Error(len(given), e, e2, e3, e4)
		}
		return e
	}
	for given, want := range map[string]api.Errno{
		times(1000, "Int ~ Int"): api.OK, times(1001, "Int ~ Int"): api.ErrFuel, times(1000, "Int ~ Int") + ", Eq r0": api.OK, times(999, "Int ~ Bool") + ", r0 ~ Int": api.OK, "Int ~ Bool, " + times(1000, "r0 ~ Int"): api.ErrFuel,
		// parts are taken out, too
		times(333, "List m0 ~ List Int") + ", Int ~ Int": api.OK, times(333, "List m0 ~ List Int") + ", Int ~ Int, Int ~ Int": api.ErrFuel,
		// and what was a rule before
		times(997, "Int ~ Int") + ", r1 ~ r0, r0 ~ Int": api.OK, times(998, "Int ~ Int") + ", r1 ~ r0, r0 ~ Int": api.ErrFuel,
	} {
		if e := rules(given); e != want {
			t.Errorf("%.30s...: %d, %d", given, len(given), e)
		}
	}
	// those of the chain count together, and all rules of a call: 125 pairs with 8 equations each are enough
	p := problem.Read(variables + "imp -1: " + times(500, "Int ~ Int") + "; imp 0: " + times(501, "Int ~ Int") + "; imp -1: " + times(8, "Int ~ Int") + "; imp -1: " + times(7, "Int ~ Int"))
	if _, _, e := Rules(env, p, 1); e != api.ErrFuel {
		t.Error(e)
	}
	for _, row := range []struct {
		imp, leaves int
		want        api.Errno
	}{{0, 1, api.OK}, {0, 2, api.ErrFuel}, {2, 63, api.OK}, {2, 64, api.ErrFuel}, {3, 71, api.OK}, {3, 72, api.ErrFuel}} {
		a, b := tree(row.leaves, rigid(0)), tree(row.leaves, rigid(1))
		if _, l, e := Unify(env, p, row.imp, a, b); e != row.want || e == api.OK && len(l) != row.leaves {
			t.Error(row, len(l), e)
		}
	}
}

// tree has so many leaves; twice as many nodes without one.
func tree(leaves int, leaf api.Type) api.Type {
	if leaves == 1 {
		return leaf
	}
	return app(tree(leaves/2, leaf), tree(leaves-leaves/2, leaf))
}

// TestStepsMade: 1000 steps may be made for one normal form, by families and by rules.
func TestStepsMade(t *testing.T) {
	env := problem.Env(`
		data Nat : Type { Z : Nat; S : Nat -> Nat; };
		data Pair : Type -> Type -> Type { };
		family Const : Type -> Type -> Type { Const a b = a; };
		family Tree : Nat -> Type { Tree 'Z = Int; Tree ('S n) = Const (Tree n) (Tree n); };`)
	needing := func(depth int) api.Type { // 1, 4, 10, 22, 46, 94, 190, 382, 766 steps
		n := con("'Z")
		for range depth {
			n = app(con("'S"), n)
		}
		return app(con("Tree"), n)
	}
	var thousand api.Type // 999 steps, and then one by a rule
	for i, depth := range []int{8, 6, 3, 2, 1, 1, 0, 0, 0} {
		if i == 0 {
			thousand = needing(depth)
			continue
		}
		thousand = app(app(con("Pair"), thousand), needing(depth))
	}
	thousand = app(app(con("Pair"), thousand), rigid(0))
	p := problem.Read("meta Type @1; rigid Type; rigid Type; imp -1: r0 ~ Int, r1 ~ Int;")
	more := app(app(con("Pair"), thousand), rigid(1))
	if x, e := Normal(env, p, 0, thousand); e != api.OK || len(x.Args) != 2 {
		t.Error(show(x), e)
	}
	if x, e := Normal(env, p, 0, more); e != api.ErrFuel || !types.Same(x, api.Type{}) {
		t.Error(show(x), e)
	}
	if ok, e := Holds(env, p, 0, thousand, thousand); !ok || e != api.OK { // each one for itself
		t.Error(ok, e)
	}
	if _, _, e := Unify(env, p, 0, meta(0), thousand); e != api.OK {
		t.Error(e)
	}
	if _, _, e := Unify(env, p, 0, meta(0), more); e != api.ErrFuel {
		t.Error(e)
	}
	p.Imps[0].Given[1] = problem.Equation(rigid(1), app(app(con("Pair"), thousand), rigid(0)))
	if _, _, e := Rules(env, p, 0); e != api.ErrFuel {
		t.Error(e)
	}
}
