package cover

import (
	"slices"
	"strconv"
	"strings"
	"testing"

	"damask/api"
	"damask/internal/problem"
	"damask/internal/text"
)

func named(s string) api.Type { return api.Type{Op: api.YCon, S: s} }

// lines repeats something with its number in the place of a #.
func lines(n int, pattern string) string {
	var s strings.Builder
	for i := range n {
		s.WriteString(strings.ReplaceAll(pattern, "#", strconv.Itoa(i)))
	}
	return s.String()
}

// TestErrors: of the first pattern that does not fit, as far as patterns are looked at.
func TestErrors(t *testing.T) {
	e := env(t)
	for _, c := range []struct {
		question
		missing, useless string
	}{
		{question{"", "Bool", "1;"}, "error 24", "error 24"},
		{question{"", "Int", "True;"}, "error 24", "error 24"},
		{question{"", "Bool", "A;"}, "error 24", "error 24"},
		{question{"", "Bool", "No;"}, "error 24", "error 24"},
		{question{"", "Bool", "_; x; ~A; !A;"}, "error 24", "error 24"},
		{question{"", "Bool", "~A;"}, "", ""},
		{question{"Type", "r0", "True;"}, "error 24", "error 24"},
		{question{"Type", "r0", "1;"}, "error 24", "error 24"},
		{question{"Type", "r0", "x; _;"}, "", "1"},
		{question{"", "Int -> Int", "True;"}, "error 24", "error 24"},
		{question{"", "forall a. a", "1;"}, "error 24", "error 24"},
		{question{"", "Void", "True;"}, "error 24", "error 24"},
		{question{"", "IO Int", "Unit;"}, "error 24", "error 24"},
		{question{"Type", "Elem r0", "True;"}, "error 24", "error 24"},
		{question{"Type", "Elem (List Bool)", "True;"}, "False;", ""},
		// another number of Args, after the type
		{question{"", "Nat", "(Z x);"}, "error 22", "error 22"},
		{question{"", "Nat", "S;"}, "error 22", "error 22"},
		{question{"", "Bool", "S;"}, "error 24", "error 24"},
		{question{"", "Bool", "(True x);"}, "error 22", "error 22"},
		// the first row decides, and the first column
		{question{"", "Nat", "S; True;"}, "error 22", "error 22"},
		{question{"", "Nat", "True; S;"}, "error 24", "error 24"},
		{question{"", "Nat", "Z; S; True;"}, "error 22", "error 22"},
		{question{"", "Nat, Nat", "Z True; S Z;"}, "error 22", "error 24"},
		{question{"", "Nat, Nat", "x True; Z S;"}, "error 24", "error 24"},
		{question{"", "Pair Bool Nat", "(Pair S Z); (Pair True 1);"}, "error 24", "error 24"},
		{question{"", "Pair Bool Nat", "(Pair True S); (Pair 1 Z);"}, "error 24", "error 22"},
		{question{"", "Pair Bool Nat", "(Pair True S); (Pair False True);"}, "error 24", "error 22"},
		{question{"", "Three, Nat", "C S; B True; A x;"}, "error 24", "error 22"},
		{question{"", "Int, Nat", "2 S; 1 True;"}, "error 24", "error 22"},
		{question{"", "Int, Nat", "2 x; 1 y; x True;"}, "error 24", "error 24"},
		// rows with guards are looked at by Useless alone
		{question{"", "Bool", "?1; _;"}, "", "error 24"},
		{question{"", "Nat", "_; ?S;"}, "", "error 22"},
		// rows that are not possible are looked at no further, their own constructor is
		{question{"Type", "Vec r0 'Z, Bool", "(VCons x y) 1; VNil True;"}, "VNil False;", "0"},
		{question{"Type", "Vec r0 'Z, Bool", "(VCons True y) True;"}, "VNil _;", "0"},
		{question{"Type", "Vec r0 'Z, Bool", "VCons True;"}, "error 22", "error 22"},
		{question{"Type", "Vec r0 'Z, Bool", "_ 1; (VCons x y) True;"}, "error 24", "error 24"},
		// what one constructor says makes patterns fit, and those of another one not
		{question{"Type", "Ty r0, r0", "TInt True;"}, "error 24", "error 24"},
		{question{"Type", "Ty r0, r0", "_ 1; TInt 2;"}, "error 24", "error 24"},
		{question{"Type", "Ty r0, r0", "TInt 2; _ 1;"}, "error 24", ""},
		{question{"Type", "Ty r0, r0", "TInt 2; _ 2;"}, "error 24", "error 24"},
		{question{"Type", "r0, Ty r0", "1 TInt;"}, "error 24", "error 24"},
		// normal forms without an end, and only where types are looked at
		{question{"", "Spin", "True;"}, "error 7", "error 7"},
		{question{"", "Bool, Spin", "True x; False 1;"}, "error 7", "error 7"},
		{question{"", "Bool, Spin", "True x; True 1;"}, "error 7", "error 7"},
		{question{"Type, Nat", "Is Spin Int, Bool", "Refl True;"}, "error 7", "error 7"},
	} {
		if got := missingOf(e, c.question); got != c.missing {
			t.Errorf("%s | %s: missing %s, not %s", c.types, c.rows, got, c.missing)
		}
		if got := uselessOf(e, c.question); got != c.useless {
			t.Errorf("%s | %s: useless %s, not %s", c.types, c.rows, got, c.useless)
		}
	}
}

// TestAllConstructorsFirst: whether constructors are possible is looked at before what is in one of them.
func TestAllConstructorsFirst(t *testing.T) {
	e := problem.Env(`family Spin : Type { Spin = Spin; };
		data Odd : Type -> Type { Good : Bool -> Odd a; Bad : Spin ~ Int => Odd a; };
		data Deep : Type -> Type { Here : Deep a; Down : Is (List a) Int => Deep a; };
		data List : Type -> Type { Nil : List a; };
		class Is (a) (b) { };`)
	for _, rows := range []string{"(Good 1);", "(Good True);", "(Good True); _;", "_; (Good True);"} {
		q := question{"Type", "Odd r0", rows}
		if rows[0] == '_' {
			if got := uselessOf(e, q); got != "error 7" {
				t.Error(rows, got)
			}
		}
	}
	for rows, want := range map[string]string{"(Good True);": "error 7", "(Good True); _;": "error 7", "_;": "", "1;": "error 24", "Good; _;": "error 22"} {
		q := question{"Type", "Odd r0", rows}
		if got := missingOf(e, q); got != want {
			t.Error(rows, got)
		}
		if got := uselessOf(e, q); got != want {
			t.Error(rows, got)
		}
	}
}

// TestLimits: so many columns, rows, matrices and missing rows there can be, and no more.
func TestLimits(t *testing.T) {
	e := env(t)
	columns := func(n int) string { return strings.TrimSuffix(strings.Repeat("Int,", n), ",") }
	wilds := func(n int) string { return strings.Repeat("_ ", n) }
	for _, c := range []struct {
		question
		missing, useless string
	}{
		{question{"", columns(40), ""}, wilds(40)[:79] + ";", ""},
		{question{"", columns(41), ""}, "error 2", "error 2"},
		{question{"", columns(40), wilds(40) + ";"}, "", ""},
		{question{"", columns(41), wilds(41) + ";"}, "error 2", "error 2"},
		{question{"", "Int", lines(120, "_;")}, "", showNumbers(upFrom(1, 120))},
		{question{"", "Int", lines(121, "_;")}, "error 2", "error 2"},
		// so many missing rows
		{question{"", "Int, Bool", lines(119, "# True;")}, lines(119, "# False; ") + "_ _;", ""},
		{question{"", "Int, Bool", lines(120, "# True;")}, "error 5", ""},
		{question{"", "Int, Bool, Three", lines(119, "# True x;") + "120 True;"}, "error 2", "error 2"},
		{question{"", "Int, Bool, Three", lines(119, "# True x;") + "121 True 1;"}, "error 24", "error 24"},
		{question{"", "Int, Bool, Spin", lines(119, "# True x;") + "121 True 1;"}, "error 7", "error 7"},
		// so many matrices
		{question{"", columns(4) + ", Int, Bool, " + columns(3), lines(110, "_ _ _ _ # True _ _ _;")}, lines(110, "_ _ _ _ # False _ _ _; ") + "_ _ _ _ _ _ _ _ _;", "error 7"},
		{question{"", columns(5) + ", Int, Bool, " + columns(3), lines(110, "_ _ _ _ _ # True _ _ _;")}, "error 7", "error 7"},
		{question{"", columns(9), lines(100, wilds(9)+";")}, "", showNumbers(upFrom(1, 100))},
		{question{"", columns(9), lines(101, wilds(9)+";")}, "", "error 7"},
		{question{"", columns(9), lines(100, "?"+wilds(9)+";")}, wilds(9)[:17] + ";", ""},
		{question{"", columns(9), lines(101, "?"+wilds(9)+";")}, wilds(9)[:17] + ";", "error 7"},
	} {
		if got := missingOf(e, c.question); got != c.missing {
			t.Errorf("%s | %s: missing %s, not %s", c.types, c.rows, got, c.missing)
		}
		if got := uselessOf(e, c.question); got != c.useless {
			t.Errorf("%s | %s: useless %s, not %s", c.types, c.rows, got, c.useless)
		}
	}
}

func upFrom(from, to int) []int {
	var l []int
	for n := from; n < to; n++ {
		l = append(l, n)
	}
	return l
}

// TestTooLarge: types and rigid variables on the way can become too many.
func TestTooLarge(t *testing.T) {
	e := problem.Env(world + `
		data Nest : Type -> Type { End : Nest a; More : a -> Nest (List a) -> Nest a; };
		data Same : Type -> Type -> Type { Same : Same a (List a); };
		data Some2 : Type { Some2 : a -> Some2; };`)
	nested := func(n int) api.Type { // n deep
		x := named("Int")
		for range n - 1 {
			x = api.Type{Op: api.YApp, Args: []api.Type{named("List"), x}}
		}
		return x
	}
	of := func(head string, args ...api.Type) api.Type {
		x := named(head)
		for _, a := range args {
			x = api.Type{Op: api.YApp, Args: []api.Type{x, a}}
		}
		return x
	}
	for _, row := range []struct {
		t       api.Type
		rows    string
		missing api.Errno
		useless api.Errno
	}{
		{of("Nest", nested(38)), "(More x y); End;", api.OK, api.OK}, {of("Nest", nested(38)), "(More x End); End; (More x y);", api.ErrFull, api.ErrFull}, {of("Nest", nested(38)), "(More x End); End;", api.ErrFull, api.OK}, {of("Nest", nested(39)), "End; (More x y);", api.ErrFull, api.ErrFull}, {of("Nest", nested(39)), "End; _;", api.ErrFull, api.ErrFull}, {of("Nest", nested(39)), "(More x _); _;", api.ErrFull, api.ErrFull}, {of("Nest", nested(39)), "_;", api.OK, api.OK},
		{of("Nest", nested(39)), "End; End;", api.ErrFull, api.OK}, {of("Nest", nested(37)), "(More x End); _;", api.OK, api.OK}, {of("Nest", nested(37)), "(More x (More y End)); _;", api.ErrFull, api.OK}, {of("Nest", nested(40)), "_;", api.ErrArg, api.ErrArg},
		{of("Same", nested(37), nested(38)), "Same; _;", api.OK, api.OK}, {of("Same", nested(38), nested(39)), "Same; _;", api.ErrFull, api.ErrFull}, {of("Same", nested(38), nested(38)), "Same; _;", api.OK, api.OK},
	} {
		rows, guarded := matrixOf(row.rows)
		if l, err := Missing(e, nil, []api.Type{row.t}, rows, guarded); err != row.missing || err != api.OK && l != nil {
			t.Error(row.rows, l, err)
		}
		if l, err := Useless(e, nil, []api.Type{row.t}, rows, guarded); err != row.useless || err != api.OK && l != nil {
			t.Error(row.rows, l, err)
		}
	}
	rigid := []api.Rigid{{Kind: named("Type")}}
	for _, row := range []struct {
		rigids int
		rows   string
		want   api.Errno
	}{{400, "_;", api.OK}, {400, "(Some2 x); _;", api.ErrFull}, {399, "(Some2 x); _;", api.OK}, {401, "_;", api.ErrArg}} {
		rows, guarded := matrixOf(row.rows)
		l := slices.Repeat(rigid, row.rigids)
		if _, err := Missing(e, l, typs("Some2"), rows, guarded); err != row.want {
			t.Error(row, err)
		}
		if _, err := Useless(e, l, typs("Some2"), rows, guarded); err != row.want {
			t.Error(row, err)
		}
	}
	if _, err := Possible(e, slices.Repeat(rigid, 400), nil, typ("Some2")); err != api.ErrFull {
		t.Error(err)
	}
	if l, err := Possible(e, slices.Repeat(rigid, 399), nil, typ("Some2")); err != api.OK || len(l) != 1 {
		t.Error(err)
	}
}

// TestNotFormed: what is no matrix at all.
func TestNotFormed(t *testing.T) {
	e := env(t)
	one := func(p api.Pat) [][]api.Pat { return [][]api.Pat{{p}} }
	x := api.Pat{Op: api.PWild}
	for i, row := range []struct {
		rigids  []api.Rigid
		types   []api.Type
		rows    [][]api.Pat
		guarded []bool
	}{
		{nil, typs("Int"), one(api.Pat{}), []bool{true}},
		{nil, typs("Int"), one(api.Pat{Op: 8}), []bool{false}},
		{nil, typs("Int"), one(api.Pat{Op: -1}), []bool{false}},
		{nil, typs("Int"), one(api.Pat{Op: api.PWild, S: "x"}), []bool{false}},
		{nil, typs("Int"), one(api.Pat{Op: api.PWild, N: 1}), []bool{false}},
		{nil, typs("Int"), one(api.Pat{Op: api.PWild, Args: []api.Pat{x}}), []bool{false}},
		{nil, typs("Int"), one(api.Pat{Op: api.PVar}), []bool{false}},
		{nil, typs("Int"), one(api.Pat{Op: api.PVar, S: "x", N: 1}), []bool{false}},
		{nil, typs("Int"), one(api.Pat{Op: api.PVar, S: "x", Args: []api.Pat{x}}), []bool{false}},
		{nil, typs("Int"), one(api.Pat{Op: api.PInt, N: -1}), []bool{false}},
		{nil, typs("Int"), one(api.Pat{Op: api.PInt, S: "x"}), []bool{false}},
		{nil, typs("Int"), one(api.Pat{Op: api.PInt, Args: []api.Pat{x}}), []bool{false}},
		{nil, typs("Bool"), one(api.Pat{Op: api.PCon}), []bool{false}},
		{nil, typs("Bool"), one(api.Pat{Op: api.PCon, S: "True", N: 1}), []bool{false}},
		{nil, typs("Bool"), one(api.Pat{Op: api.PCon, S: "True", Args: []api.Pat{{}}}), []bool{false}},
		{nil, typs("Int"), one(api.Pat{Op: api.PAs, S: "x"}), []bool{false}},
		{nil, typs("Int"), one(api.Pat{Op: api.PAs, Args: []api.Pat{x}}), []bool{false}},
		{nil, typs("Int"), one(api.Pat{Op: api.PAs, S: "x", N: 1, Args: []api.Pat{x}}), []bool{false}},
		{nil, typs("Int"), one(api.Pat{Op: api.PAs, S: "x", Args: []api.Pat{x, x}}), []bool{false}},
		{nil, typs("Int"), one(api.Pat{Op: api.PBang}), []bool{false}},
		{nil, typs("Int"), one(api.Pat{Op: api.PBang, S: "x", Args: []api.Pat{x}}), []bool{false}},
		{nil, typs("Int"), one(api.Pat{Op: api.PBang, N: 1, Args: []api.Pat{x}}), []bool{false}},
		{nil, typs("Int"), one(api.Pat{Op: api.PLazy, Args: []api.Pat{x, x}}), []bool{false}},
		{nil, typs("Int"), one(api.Pat{Op: api.PLazy, Args: []api.Pat{{}}}), []bool{false}},
		{nil, typs("Int"), [][]api.Pat{{x, x}}, []bool{false}},
		{nil, typs("Int"), [][]api.Pat{{x}, {}}, []bool{false, false}},
		{nil, nil, [][]api.Pat{{x}}, []bool{false}},
		{nil, typs("Int"), [][]api.Pat{{x}}, nil},
		{nil, typs("Int"), [][]api.Pat{{x}}, []bool{false, true}},
		{nil, typs("Int"), nil, []bool{true}},
		{nil, []api.Type{{}}, [][]api.Pat{{x}}, []bool{true}},
		{nil, []api.Type{{Op: api.YCon}}, nil, nil},
		{nil, []api.Type{text.Deep(41)}, nil, nil},
		{[]api.Rigid{{}}, nil, nil, nil},
		{[]api.Rigid{{Kind: text.Deep(41)}}, nil, nil, nil},
	} {
		if l, err := Missing(e, row.rigids, row.types, row.rows, row.guarded); err != api.ErrArg || l != nil {
			t.Error(i, l, err)
		}
		if l, err := Useless(e, row.rigids, row.types, row.rows, row.guarded); err != api.ErrArg || l != nil {
			t.Error(i, l, err)
		}
	}
	// names can be any, and patterns nested as one likes
	p := api.Pat{Op: api.PVar, S: "M. ?"}
	for range 100 {
		p = api.Pat{Op: api.PAs, S: "+", Args: []api.Pat{p}}
	}
	if l, err := Missing(e, nil, typs("Int"), one(p), []bool{false}); err != api.OK || len(l) != 0 {
		t.Error(l, err)
	}
	if l, err := Missing(e, nil, typs("Int"), one(api.Pat{Op: api.PCon, S: "no name"}), []bool{false}); err != api.ErrType || l != nil {
		t.Error(l, err)
	}
}

// TestOtherTypes: what is proper, but is none of these types, is no argument that is not valid.
func TestOtherTypes(t *testing.T) {
	e := env(t)
	rows, guarded := matrixOf("True; False;")
	for _, source := range []string{"m0", "v0", "r1", "List m0", "forall a. v0", "List List", "Add 'Z", "List", "Eq", "'Z"} {
		l := typs(source)
		r := rigids("Type")
		_, e1 := Missing(e, r, l, rows, guarded)
		_, e2 := Useless(e, r, l, rows, guarded)
		_, e3 := Values(e, r, l[0], 3)
		_, e4 := Possible(e, r, nil, l[0])
		_, e5 := Possible(e, r, l, typ("Bool"))
		for _, err := range []api.Errno{e1, e2, e3, e4, e5} {
			if err == api.ErrArg {
				t.Error(source, e1, e2, e3, e4, e5)
			}
		}
	}
}
