package solve

import (
	"slices"
	"strconv"
	"strings"
	"testing"

	"damask/api"
	"damask/internal/problem"
	"damask/internal/sample"
	"damask/types"
)

// row is a problem, and what becomes of it.
type row struct{ problem, changes, left string }

func solved(t *testing.T, env api.Env, rows []row) {
	t.Helper()
	for _, r := range rows {
		p := problem.Read(r.problem)
		q, e := Solve(env, p)
		if e != api.OK {
			t.Error(r.problem, e)
			continue
		}
		if got, left := problem.Changes(p, q), problem.Wants(q.Wants); got != r.changes || left != r.left {
			t.Errorf("%s\n%s; left %s", r.problem, got, left)
		}
		q.Metas, q.Rigids, q.Wants, p.Wants = p.Metas, p.Rigids, nil, nil
		if problem.Show(p) != problem.Show(q) {
			t.Error("something else has changed:", problem.Show(q))
		}
	}
}

// TestExamples are those of the chapter, in the environment of DOC.md's example.
func TestExamples(t *testing.T) {
	inner := strings.TrimSuffix(strings.TrimPrefix(sample.Example, "module Main {"), "}\n")
	solved(t, problem.Env(inner), []row{
		{"want -1: Eq (List Int);", "", ""},
		{"meta Type; want -1: Collect (List Int) m0;", "m0 = Int", ""},
		{"rigid Type; imp -1: Ord r0; want 0: Eq r0;", "", ""},
		{"rigid Type; imp -1: Ord r0; want -1: Eq r0; want 0: Ord (List r0);", "", "-1: Eq rigid0, 0: Ord (List rigid0)"},
		{"meta Type; meta Type; want -1: Collect m0 m1; want -1: m0 ~ List m1; want -1: m1 ~ List Int;", "m0 = List meta1, m1 = List Int", ""},
	})
}

func TestSolve(t *testing.T) {
	solved(t, problem.Env(problem.World), []row{
		{"", "", ""}, {"meta Type; imp -1: Eq m0;", "", ""},
		// equations become what is left of them
		{"meta Type; want -1: m0 ~ Int;", "m0 = Int", ""}, {"meta Type; rigid Type; rigid Type; want -1: Pair m0 (Pair r0 r1) ~ Pair Int (Pair Int Bool); want -1: Eq r0;", "m0 = Int", "-1: rigid0 ~ Int, -1: rigid1 ~ Bool, -1: Eq rigid0"}, {"rigid Type; imp -1: r0 ~ Int; imp -1: ; want 0: List r0 ~ List Int; want 1: List r0 ~ List Int; want -1: Int ~ Int;", "", "1: rigid0 ~ Int"},
		{"meta Type; meta Type; want -1: Elem m0 ~ m1; want -1: m0 ~ List Bool;", "m0 = List Bool, m1 = Elem meta0", ""}, {"meta Type; meta Type; want -1: Elem m0 ~ Int; want -1: m0 ~ List m1;", "m0 = List meta1, m1 = Int", ""}, {"meta Type; meta Type; want -1: Elem m0 ~ Pair m1 Int; want -1: Elem m0 ~ Int;", "", "-1: Elem meta0 ~ Pair meta1 Int, -1: Elem meta0 ~ Int"},
		{"meta Type; want -1: (forall a. a -> m0) ~ (forall a. a -> a);", "r0 : Type @1", "-1: meta0 ~ rigid0"},
		// class constraints become the contexts of instances, in their places
		{"want -1: Eq (List (Pair Int (List Int)));", "", ""}, {"rigid Type; rigid Type; want -1: Int ~ Bool; want -1: Eq (Pair r0 (List r1)); want -1: Ord r0;", "", "-1: Int ~ Bool, -1: Eq rigid0, -1: Eq rigid1, -1: Ord rigid0"}, {"want -1: Eq Bool; want -1: Empty; want -1: Ord (List Bool); want -1: Sized ('S ('S 'Z));", "", "-1: Eq Bool, -1: Empty, -1: Ord Bool"}, {"rigid Type -> Type; meta Type; want -1: Apply (r0 m0); want -1: Apply (r0 Int); want -1: Functor r0;", "", "-1: Apply meta0, -1: Functor rigid0"}, {"rigid Nat; want -1: Apply (Elem (List Some)); want -1: Apply (Box r0 Int); want -1: Apply (Box r0 Int Bool);", "", "-1: Apply Some, -1: Apply Bool"},
		// resolved, and normal in their implications
		{"meta Type = List r0; rigid Type; want -1: Ord (Elem m0);", "", "-1: Ord rigid0"}, {"rigid Type; imp -1: r0 ~ List Int; want 0: Eq r0; want -1: Eq r0; want 0: Eq (Elem r0);", "", "-1: Eq rigid0"}, {"rigid Type; imp -1: Elem r0 ~ Bool; imp 0: ; want 1: Eq (Elem r0);", "", "1: Eq Bool"},
		// what is given, and its superclasses, comes before instances
		{"rigid Type; imp -1: Eq (List r0); want 0: Eq (List r0); want 0: Eq (List (List r0)); want -1: Eq (List r0); want 0: Eq r0;", "", "-1: Eq rigid0, 0: Eq rigid0"}, {"rigid Type; imp -1: Num r0; imp 0: ; want 1: Num r0; want 1: Ord (List r0); want 1: Eq (Pair r0 (List r0));", "", ""}, {"rigid Type; rigid Type; imp -1: Eq r1, r1 ~ r0; imp 0: ; want 1: Eq r0; want 0: Eq r1; want -1: Eq r1;", "", "-1: Eq rigid1"}, {"rigid Type; rigid Type; imp -1: Eq (Elem r0), Elem r0 ~ List r1; want 0: Eq (List r1); want 0: Eq r1;", "", "0: Eq rigid1"}, {"meta Type = Int; rigid Type; imp -1: Triple (List r0) m0 Int; want 0: Triple (List r0) Int Int; want 0: Eq (List r0);", "", ""}, {"meta Type; rigid Type; imp -1: Eq m0; want 0: Eq m0; want 0: Eq r0; want -1: m0 ~ List r0;", "m0 = List rigid0", "0: Eq rigid0"},
		// dependencies
		{"meta Type; want -1: Conv m0 Bool;", "m0 = Int", ""}, {"meta Type; want -1: Conv Int m0;", "m0 = Bool", ""}, {"meta Type; want -1: Triple (List Int) (List Bool) m0;", "m0 = Pair Int Bool", ""}, {"meta Type; meta Type; want -1: Triple m0 m1 (Pair Int Bool);", "m0 = List Int, m1 = List Bool", ""}, {"meta Type; want -1: Triple (List Int) m0 Bool;", "", "-1: Triple (List Int) meta0 Bool"}, {"meta Type; meta Type; want -1: Collect (Pair (List Int) Int) (List m0); want -1: Collect m1 Int;", "m0 = Int", "-1: Collect meta1 Int"}, {"rigid Type; meta Type; want -1: Collect (List r0) m0;", "m0 = rigid0", "-1: Eq rigid0"},
		{"want -1: Collect (List Int) Bool; want -1: Conv (List Int) Bool;", "", "-1: Collect (List Int) Bool, -1: Conv (List Int) Bool"}, {"meta Type; imp -1: Int ~ Int; want 0: Collect (List Int) m0; want 0: Eq m0;", "", "0: Collect (List Int) meta0, 0: Eq meta0"}, {"meta Type @1; imp -1: Int ~ Int; want 0: Collect (List Int) m0;", "m0 = Int", ""}, {"meta Type; rigid Type; want -1: Collect (List (forall a. a -> m0)) (List (forall a. a -> Int));", "", "-1: Collect (List (forall a. a -> meta0)) (List (forall a. a -> Int))"}, {"meta Type; want -1: Conv (List (Pair m0 Int)) (Pair (Pair Bool Bool) (Pair Int Int));", "m0 = Bool", "-1: Conv (List (Pair Bool Int)) (Pair (Pair Bool Bool) (Pair Int Int))"},
		{"meta Type; rigid Type; imp -1: Collect r0 Int; want 0: Collect r0 m0;", "m0 = Int", ""}, {"meta Type; rigid Type; imp -1: Collect r0 Int; want -1: Collect r0 m0;", "", "-1: Collect rigid0 meta0"}, {"meta Type; meta Type; rigid Type; imp -1: Triple r0 Int Bool; want 0: Triple m0 m1 Bool;", "m0 = rigid0, m1 = Int", ""}, {"meta Type; rigid Type; imp -1: Collect r0 Int; imp 0: Collect r0 Bool; want 1: Collect r0 m0;", "m0 = Int", ""}, {"meta Type; rigid Type; imp -1: Collect (List r0) Bool; want 0: Collect (List r0) m0;", "m0 = Bool", ""}, {"meta Type @1; rigid Type; rigid Type; imp -1: Collect r1 Int, r1 ~ r0; want 0: Collect r0 m0;", "m0 = Int", ""}, {"meta Type; meta Type; rigid Type; imp -1: Collect r0 (List m1); want 0: Collect r0 (List m0); want -1: m1 ~ Int;", "m0 = Int, m1 = meta0", ""},
		{"rigid Type; imp -1: Collect r0 (forall (a : Nat). Int); want 0: Collect r0 (forall a. Int);", "r1 : Nat @1", "0: Collect rigid0 (forall a. Int)"}, {"want -1: Conv (List (forall (a : Nat). a -> Int)) (Pair (forall a. a -> Int) (forall a. a -> Bool));", "r0 : Nat @1, r1 : Nat @2", "-1: Conv (List (forall (a : Nat). a -> Int)) (Pair (forall a. a -> Int) (forall a. a -> Bool))"},
		// what waits
		{"meta Type; meta Type @1; meta Type = Int; imp -1: m0 ~ Int; imp 0: ; want 1: Eq m2; want 1: m1 ~ Int; want 0: Elem (List Int) ~ m2; want 0: Int ~ Bool; want 0: Collect (List Int) m1; want -1: Eq m2;", "", "1: Eq meta2, 1: meta1 ~ Int, 0: Int ~ Bool, 0: Collect (List Int) meta1"}, {"meta Type; meta Type = m0; rigid Type; imp -1: Elem r0 ~ List m1; want 0: Eq Int; want 0: r0 ~ r0;", "", "0: Eq Int"}, {"meta Type; rigid Type; imp -1: m0 ~ r0; want 0: Eq r0; want 0: List r0 ~ List Int; want -1: m0 ~ Int;", "m0 = Int", ""}, {"meta Type; imp -1: Eq m0, forall a. m0 ~ a; want 0: Eq Int;", "", ""}, {"rigid Type; meta Type; imp -1: r0 ~ Int, m0 ~ Int; want 0: r0 ~ Int; want 0: Elem (List r0) ~ r0;", "", "0: rigid0 ~ Int"},
		// other constraints, as they stand
		{"meta Constraint = Eq Int; want -1: m0; want -1: forall a. Eq a; want -1: Eq; want -1: Collect Int; want -1: Eq Int Int; want -1: (Int ~ Int) Int; want -1: Eq Int => Eq Int; want -1: Missing m0;", "", "-1: meta0, -1: forall a. Eq a, -1: Eq, -1: Collect Int, -1: Eq Int Int, -1: (Int ~ Int) Int, -1: Eq Int => Eq Int, -1: Missing meta0"}, {"meta Constraint = Eq r0; rigid Type; imp -1: m0; want 0: Eq r0;", "", "0: Eq rigid0"}, {"meta Constraint = r0 ~ Int; rigid Type; imp -1: m0; want 0: r0 ~ Int;", "", "0: rigid0 ~ Int"},
	})
}

// TestRounds: what comes first in the list sees what comes behind it in the next round alone.
func TestRounds(t *testing.T) {
	env := problem.Env("class Next (a) (b) | a -> b { }; instance Next Int Int { };")
	chain := func(n, needless int) api.Problem { // each round but the first one ends with a want less
		var s strings.Builder
		s.WriteString("meta Type = Int;")
		s.WriteString(strings.Repeat("meta Type;", n))
		for i := n - 1; i >= 0; i-- {
			s.WriteString("want -1: Next m" + strconv.Itoa(i) + " m" + strconv.Itoa(i+1) + ";")
		}
		s.WriteString(strings.Repeat("want -1: Next Int Int;", needless))
		return problem.Read(s.String())
	}
	for _, row := range []struct {
		n, needless int
		want        api.Errno
	}{{5, 0, api.OK}, {198, 101, api.OK}, {198, 102, api.ErrFuel}, {199, 0, api.ErrFuel}} { // 198 + 198 + 197 + ... + 1 + 101 are 20000
		q, e := Solve(env, chain(row.n, row.needless))
		if e != row.want || e == api.OK && (len(q.Wants) > 0 || show(q.Metas[row.n].Value) != "Int") || e != api.OK && (q.Metas != nil || q.Wants != nil) {
			t.Error(row, len(q.Wants), e)
		}
	}
}

const doubling = `
	data List : Type -> Type { };
	data Pair : Type -> Type -> Type { };
	class A (a) { };
	class B (a) { };
	instance A Int { };
	instance B Int { };
	instance forall a. A a => B a => A (List a) { };
	instance forall a. A a => B a => B (List a) { };
	instance forall a. A a => A (IO a) { };
	instance forall a b. A a => A b => A (Pair a b) { };
`

func lists(n int) api.Type {
	t := con("Int")
	for range n {
		t = app(con("List"), t)
	}
	return t
}

// TestManyWants: the list of a round can have 400 wants, and no more.
func TestManyWants(t *testing.T) {
	env := problem.Env(doubling)
	wants := func(n int, c api.Type) []api.Want { return slices.Repeat([]api.Want{{Imp: -1, Type: c}}, n) }
	a := func(x api.Type) api.Type { return app(con("A"), x) }
	for i, row := range []struct {
		wants []api.Want
		want  api.Errno
	}{
		{wants(1, a(lists(8))), api.OK}, {wants(1, a(lists(9))), api.ErrFull}, {wants(200, a(lists(1))), api.OK}, {append(wants(200, a(lists(1))), wants(200, a(lists(0)))...), api.OK}, {append(wants(200, a(lists(1))), wants(1, a(con("Bool")))...), api.ErrFull}, {append(wants(1, a(con("Bool"))), wants(200, a(lists(1)))...), api.ErrFull},
		{wants(400, a(con("Bool"))), api.OK}, {wants(401, a(con("Bool"))), api.ErrArg},
	} {
		if _, e := Solve(env, api.Problem{Wants: row.wants}); e != row.want {
			t.Error(i, e)
		}
	}
}

// TestLooked: 20000 constraints can be looked at to see whether one holds, and no more.
func TestLooked(t *testing.T) {
	env := problem.Env(doubling)
	pair := func(a, b api.Type) api.Type { return app(app(con("Pair"), a), b) }
	io := func(a api.Type) api.Type { return app(con("IO"), a) }
	all := io(pair(lists(13), pair(lists(10), pair(lists(9), pair(lists(8), lists(4)))))) // 2 + 16383 + 1 + 2047 + 1 + 1023 + 1 + 511 + 31
	for i, row := range []struct {
		t    api.Type
		want bool
		e    api.Errno
	}{{all, true, api.OK}, {io(all), false, api.ErrFuel}, {pair(con("Bool"), io(all)), false, api.OK}, {pair(lists(14), con("Bool")), false, api.ErrFuel}, {pair(lists(13), con("Bool")), false, api.OK}, {lists(14), false, api.ErrFuel}} {
		c := app(con("A"), row.t)
		if ok, e := Holds(env, api.Problem{}, api.Want{Imp: -1, Type: c}); ok != row.want || e != row.e {
			t.Error(i, ok, e)
		}
		if ok, e := Entails(env, nil, nil, c); ok != row.want || e != row.e {
			t.Error(i, ok, e)
		}
	}
}

// TestErrors: those of the layers below come from wherever wants, and what is given, are looked at.
func TestErrors(t *testing.T) {
	env := problem.Env(problem.World)
	large := "meta Type = Pair m1 m1; meta Type = Pair m2 m2; meta Type = Pair m3 m3; meta Type = Pair m4 m4; meta Type = Pair m5 m5; meta Type = Pair m6 m6; meta Type = Pair m7 m7; meta Type = Pair Int Int;"
	for _, row := range []struct {
		problem string
		want    api.Errno
	}{
		{"want -1: Spin ~ Int;", api.ErrFuel}, {"want -1: Eq Spin;", api.ErrFuel}, {"want -1: Eq (Grow Int);", api.ErrFull}, {"want -1: Eq Int; want -1: Eq (Grow Int); want -1: Spin ~ Int;", api.ErrFull}, {"meta Type; want -1: m0 ~ Missing;", api.ErrName}, {"meta Type; want -1: Collect (List Missing) m0;", api.ErrName}, {"imp -1: Eq Spin; want 0: Eq Int;", api.ErrFuel}, {"imp -1: Eq Spin; want -1: Eq Int;", api.OK}, {"imp -1: Eq Spin; want 0: Int ~ Bool;", api.OK}, {"rigid Type; imp -1: r0 ~ Spin; want 0: Eq Int;", api.ErrFuel}, {"rigid Type; imp -1: r0 ~ Spin; want 0: Missing;", api.OK},
		{"meta Type; rigid Type; imp -1: m0 ~ Int; want 0: Spin ~ Int;", api.ErrFuel}, {"meta Type; rigid Type; imp -1: m0 ~ Spin; want 0: Eq Spin;", api.OK},
		{large + "want -1: Eq m0;", api.ErrFull}, {large + "want -1: m0 ~ Int;", api.ErrFull}, {large + "imp -1: m0 ~ Int; want 0: Missing;", api.ErrFull}, {large + "imp -1: m0 ~ Int; want -1: Eq Int;", api.OK}, {large + "want -1: Missing m0;", api.ErrFull}, {large + "want -1: Missing m0; want -1: Eq Int;", api.ErrFull}, {large + "want -1: Missing m1;", api.OK}, {large + "want -1: Eq Int; want -1: Missing m0; want -1: Eq Spin;", api.ErrFuel},
	} {
		q, e := Solve(env, problem.Read(row.problem))
		if e != row.want || e != api.OK && (q.Metas != nil || q.Rigids != nil || q.Imps != nil || q.Wants != nil) {
			t.Error(row.problem, e)
		}
	}
}

// TestTooLarge: an equation that is left can be too large for a type, and so can what a dependency determines.
func TestTooLarge(t *testing.T) {
	env := problem.Env(`
		data Pair : Type -> Type -> Type { };
		family Twice : Type -> Type { Twice a = Pair a a; };
		family Stuck : Type -> Type { };
		family Spin : Type { Spin = Spin; };
		data List : Type -> Type { };
		class C (a) { };
		class D (a) { };
		instance forall a. C (List (List (List (List (List a))))) => D (Pair (Pair a Int) (Pair Int Int)) { };
		class E (a) (b) | a -> b { };
		instance forall a b. E (Pair a b) (Pair a a) { };`)
	pair := func(a, b api.Type) api.Type { return app(app(con("Pair"), a), b) }
	tree := func(n int) api.Type { // 5, 13, 29, 61, 125, 253, 509 nodes
		t := pair(con("Int"), con("Int"))
		for range n {
			t = pair(t, t)
		}
		return t
	}
	equation := func(n, m int) api.Want {
		return api.Want{Imp: -1, Type: problem.Equation(app(con("Stuck"), app(con("Twice"), tree(n))), app(con("Twice"), tree(m)))}
	}
	p := api.Problem{Wants: []api.Want{equation(5, 2)}}
	if q, e := Solve(env, p); e != api.OK || len(q.Wants) != 1 {
		t.Error(len(q.Wants), e)
	}
	p.Wants = []api.Want{equation(5, 3)}
	if q, e := Solve(env, p); e != api.ErrFull {
		t.Error(len(q.Wants), e)
	}
	// it is too large in the end, if not in the first round
	p.Metas = []api.Meta{{Kind: con("Type")}}
	p.Wants = append(p.Wants, api.Want{Imp: -1, Type: problem.Equation(meta(0), con("Int"))})
	if q, e := Solve(env, p); e != api.ErrFull {
		t.Error(len(q.Wants), e)
	}
	// the context of an instance can be deeper than its arguments
	deep := func(n int) []api.Want {
		return []api.Want{{Imp: -1, Type: app(con("D"), pair(pair(lists(n), con("Int")), pair(con("Int"), con("Int"))))}, {Imp: -1, Type: read("Spin ~ Int")}}
	}
	for n, want := range map[int]api.Errno{33: api.ErrFuel, 34: api.ErrFull} {
		if _, e := Solve(env, api.Problem{Wants: deep(n)}); e != want {
			t.Error(n, e)
		}
	}
	for n, want := range map[int]api.Errno{4: api.OK, 6: api.ErrFull} {
		p.Wants = []api.Want{{Imp: -1, Type: app(app(con("E"), pair(tree(n), con("Int"))), meta(0))}}
		if q, e := Solve(env, p); e != want || len(q.Wants) != 0 {
			t.Error(n, len(q.Wants), e)
		}
	}
}

// TestGiven: class constraints from the outside to the inside, each before its superclasses, resolved and normal where one asks.
func TestGiven(t *testing.T) {
	env := problem.Env(problem.World)
	p := problem.Read(`
		meta Type = List r0; meta Type; meta Constraint = Eq Int; rigid Type; rigid Type;
		imp -1: Ord r0, r0 ~ r1, Num m0; imp 0: Triple r1 Int (Elem m0), Eq m1, m2, Eq, Missing Int, forall a. Eq a; imp 1: r0 ~ Int; imp -1: Eq r0, Eq r0; imp 0: Functor List, Empty;`)
	outer := "Ord rigid0, Eq rigid0, Num (List rigid0), Ord (List rigid0), Eq (List rigid0)"
	for imp, want := range map[int]string{-1: "", 0: outer, 1: outer + ", Triple rigid0 Int rigid0, Eq rigid0, Eq meta1", 2: "Ord Int, Eq Int, Num (List Int), Ord (List Int), Eq (List Int), Triple Int Int Int, Eq Int, Eq meta1", 3: "Eq rigid0, Eq rigid0", 4: outer + ", Functor List, Empty"} {
		if l, e := Given(env, p, imp); problem.Types(l) != want || e != api.OK {
			t.Error(imp, problem.Types(l), e)
		}
	}
	for imp, want := range map[int]api.Errno{-2: api.ErrArg, 5: api.ErrArg, 4: api.OK} {
		if _, e := Given(env, p, imp); e != want {
			t.Error(imp, e)
		}
	}
	for given, want := range map[string]api.Errno{"Eq Spin": api.ErrFuel, "Eq (Grow Int)": api.ErrFull, "Num Int, r0 ~ Spin": api.ErrFuel, "r0 ~ Spin": api.OK, "Missing Spin": api.OK} {
		if l, e := Given(env, problem.Read("rigid Type; imp -1: "+given), 0); e != want || l != nil {
			t.Error(given, l, e)
		}
	}
}

// TestSupers: superclasses are those of a constraint as it stands, each once; more than 400 are too many.
func TestSupers(t *testing.T) {
	env := problem.Env("class A (a) { }; class A a => A b => B (a) (b) { }; class B a b => B b a => C (a) (b) { };")
	p := problem.Read("meta Type = Int; rigid Type; imp -1: C r0 r0; imp -1: C m0 Int;")
	for imp, want := range []string{"C rigid0 rigid0, B rigid0 rigid0, A rigid0", "C Int Int, B Int Int, B Int Int, A Int, A Int"} {
		if l, e := Given(env, p, imp); problem.Types(l) != want || e != api.OK {
			t.Error(imp, problem.Types(l), e)
		}
	}
	source := "class A0 (a) (b) (c) (d) (e) { };"
	for i := range 7 {
		lower, class := "A"+strconv.Itoa(i), "A"+strconv.Itoa(i+1)
		source += "class " + lower + " b c d e a => " + lower + " b a c d e => " + lower + " a a c d e => " + lower + " a b c e e => " + class + " (a) (b) (c) (d) (e) { };"
	}
	env = problem.Env(source)
	p = problem.Read("rigid Type; rigid Type; rigid Type; rigid Type; rigid Type; imp -1: A7 r0 r1 r2 r3 r4; want 0: A0 r0 r0 r0 r0 r0;")
	_, e := Given(env, p, 0)
	_, e2 := Solve(env, p)
	_, e3 := Holds(env, p, p.Wants[0])
	if e != api.ErrFull || e2 != api.ErrFull || e3 != api.ErrFull {
		t.Error(e, e2, e3)
	}
}

func TestHolds(t *testing.T) {
	env := problem.Env(problem.World)
	p := problem.Read("meta Type = List Int; meta Type; meta Constraint = Eq Int; rigid Type; rigid Type; imp -1: Ord r0, r1 ~ List r0; imp 0: m1 ~ Int, Collect r0 Int;")
	for want, l := range map[bool][]string{
		true: {
			"-1: Int ~ Int", "-1: m0 ~ List Int", "-1: Elem m0 ~ Int", "0: Elem r1 ~ r0", "0: r1 ~ List r0", "-1: m1 ~ m1", "-1: Eq Int", "-1: Eq m0", "-1: Eq (Pair m0 Int)", "0: Eq r0", "0: Ord r0", "0: Eq r1", "0: Ord (List r1)", "0: Eq (Elem r1)", "-1: Collect m0 Int", "-1: Sized ('S 'Z)", "1: Collect (Pair r1 r0) (List r0)", "1: Collect r0 Int", "1: Ord r0", "-1: Apply (List Int)",
		},
		false: {
			"-1: Int ~ Bool", "-1: r1 ~ List r0", "-1: m1 ~ Int", "1: m1 ~ Int", "-1: Eq r0", "-1: Ord r0", "0: Num r0", "-1: Eq Bool", "-1: Eq (Pair Int Bool)", "-1: Eq m1", "-1: Collect m0 Bool", "-1: Collect m0 m1", "-1: Empty", "0: Collect r0 Int", "-1: m2", "-1: forall a. Eq a", "-1: Eq", "-1: Eq Int Int", "-1: Eq Int => Eq Int", "-1: Missing", "-1: Apply Some", "-1: Apply (Elem r0)",
		},
	} {
		for _, s := range l {
			w := problem.Read("want " + s).Wants[0]
			if ok, e := Holds(env, p, w); ok != want || e != api.OK {
				t.Error(s, ok, e)
			}
		}
	}
	for s, want := range map[string]api.Errno{"-2: Int": api.ErrArg, "2: Int": api.ErrArg, "-1: m3": api.ErrArg, "-1: r2": api.ErrArg, "-1: v0": api.ErrArg, "-1: Eq Spin": api.ErrFuel, "-1: Eq (Grow Int)": api.ErrFull, "-1: Spin ~ Int": api.ErrFuel, "-1: Missing Spin": api.OK, "-1: Eq (Pair Bool Spin)": api.ErrFuel} {
		if ok, e := Holds(env, p, problem.Read("want " + s).Wants[0]); ok || e != want {
			t.Error(s, ok, e)
		}
	}
	for i, x := range []api.Type{{}, {Op: 9}, con("")} {
		if _, e := Holds(env, p, api.Want{Imp: -1, Type: x}); e != api.ErrArg {
			t.Error(i, e)
		}
	}
	p.Wants = slices.Repeat([]api.Want{{Imp: -1, Type: con("Empty")}}, 400) // a want to be asked for is none of these
	if ok, e := Holds(env, p, api.Want{Imp: 0, Type: read("Eq r1")}); !ok || e != api.OK {
		t.Error(ok, e)
	}
	p.Wants = append(p.Wants, p.Wants[0])
	if _, e := Holds(env, p, api.Want{Imp: 0, Type: read("Eq r1")}); e != api.ErrArg {
		t.Error(e)
	}
}

func TestEntails(t *testing.T) {
	env := problem.Env(problem.World)
	star := []api.Rigid{{Kind: con("Type")}, {Kind: con("Type"), Level: 400}}
	for _, row := range []struct {
		given, c string
		want     bool
		e        api.Errno
	}{
		{"", "Eq (List Int)", true, api.OK}, {"", "Eq r0", false, api.OK}, {"Ord r0", "Eq (List r0)", true, api.OK}, {"Eq r0", "Ord r0", false, api.OK}, {"r0 ~ List r1, Eq r1", "Eq r0", true, api.OK}, {"r0 ~ List r1", "Elem r0 ~ r1", true, api.OK}, {"Int ~ Bool", "Int ~ Bool", false, api.OK}, {"Eq r0, Empty", "Empty", true, api.OK},
		{"", "Eq m0", false, api.ErrArg}, {"Eq m0", "Eq Int", false, api.ErrArg}, {"Eq r2", "Eq Int", false, api.ErrArg}, {"", "Eq r2", false, api.ErrArg}, {"", "Eq v0", false, api.ErrArg}, {"r0 ~ Spin", "Eq Int", false, api.ErrFuel}, {"", "Eq Spin", false, api.ErrFuel},
	} {
		given := problem.Read("imp -1: " + row.given).Imps[0].Given
		if ok, e := Entails(env, given, star, read(row.c)); ok != row.want || e != row.e {
			t.Error(row, ok, e)
		}
	}
	for n, want := range map[int]api.Errno{400: api.OK, 401: api.ErrArg} {
		if ok, e := Entails(env, nil, slices.Repeat(star[:1], n), read("Eq Int")); ok != (e == api.OK) || e != want {
			t.Error(n, ok, e)
		}
	}
	if _, e := Entails(env, nil, []api.Rigid{{Kind: con("Type"), Level: 401}}, read("Eq Int")); e != api.ErrArg {
		t.Error(e)
	}
}

func TestOpen(t *testing.T) {
	for s, want := range map[string][]int{"": nil, "meta Type; meta Type = Int; meta Nat @4; meta m0 = m2;": {0, 2}, "meta Type = Int;": nil} {
		if l, e := Open(problem.Read(s)); !slices.Equal(l, want) || e != api.OK {
			t.Error(s, l, e)
		}
	}
}

func TestUnit(t *testing.T) {
	source := "meta Type @3; meta Type = Int; meta m3; meta Type = Type; meta Nat; meta m0; meta Type; rigid Type; imp -1: Eq r0; want 0: Eq m0;"
	for _, row := range []struct {
		l       []int
		changes string
		e       api.Errno
	}{
		{nil, "", api.OK}, {[]int{0}, "m0 = Unit", api.OK}, {[]int{6, 0, 2}, "m0 = Unit, m2 = Unit, m6 = Unit", api.OK},
		{[]int{0, 7}, "", api.ErrNone}, {[]int{-1}, "", api.ErrNone}, {[]int{1}, "", api.ErrNone}, {[]int{6, 6}, "", api.ErrNone}, {[]int{4}, "", api.ErrKind}, {[]int{5}, "", api.ErrKind}, {[]int{0, 5}, "", api.ErrKind}, {[]int{7, 4}, "", api.ErrNone}, {[]int{4, 7}, "", api.ErrKind}, {[]int{0, 4, 0}, "", api.ErrKind},
	} {
		p := problem.Read(source)
		q, e := Unit(p, row.l)
		if e != row.e || e != api.OK && (q.Metas != nil || q.Rigids != nil || q.Imps != nil || q.Wants != nil) {
			t.Error(row, e)
		}
		if e != api.OK {
			continue
		}
		if got := problem.Changes(p, q); got != row.changes {
			t.Error(row, got)
		}
		q.Metas = p.Metas
		if problem.Show(p) != problem.Show(q) {
			t.Error("something else has changed:", problem.Show(q))
		}
	}
	p := problem.Read("meta Type; meta Type;")
	p.Metas[0].Value, p.Metas[1].Value = api.Type{Op: 99, S: "x"}, api.Type{Op: 99}
	if q, e := Unit(p, []int{1}); e != api.OK || !types.Same(q.Metas[0].Value, p.Metas[0].Value) || show(q.Metas[1].Value) != "Unit" {
		t.Error(q, e)
	}
	// a kind that is too large for a type
	p = problem.Read("meta m1; meta Type = Pair m2 m2; meta Type = Pair m3 m3; meta Type = Pair m4 m4; meta Type = Pair m5 m5; meta Type = Pair m6 m6; meta Type = Pair m7 m7; meta Type = Pair m8 m8; meta Type = Pair Int Int;")
	if _, e := Unit(p, []int{0}); e != api.ErrFull {
		t.Error(e)
	}
}

// TestNotFormed: a problem that is not formed is no argument of any function.
func TestNotFormed(t *testing.T) {
	env := problem.Env(problem.World)
	for i, p := range []api.Problem{
		{Imps: []api.Imp{{Parent: 0}}}, {Wants: []api.Want{{Imp: 0, Type: con("Int")}}}, {Wants: []api.Want{{Imp: -1}}}, {Metas: []api.Meta{{}}}, {Metas: []api.Meta{{Kind: con("Type"), Solved: true, Value: meta(0)}}}, {Rigids: []api.Rigid{{Kind: rigid(1)}}}, {Imps: []api.Imp{{Parent: -1, Given: list(meta(0))}}},
	} {
		_, e := Solve(env, p)
		_, e2 := Given(env, p, -1)
		_, e3 := Holds(env, p, api.Want{Imp: -1, Type: con("Int")})
		_, e4 := Open(p)
		_, e5 := Unit(p, []int{7})
		if e != api.ErrArg || e2 != api.ErrArg || e3 != api.ErrArg || e4 != api.ErrArg || e5 != api.ErrArg {
			t.Error(i, e, e2, e3, e4, e5)
		}
	}
}
