package cover

import (
	"slices"
	"strings"
	"testing"

	"damask/api"
	"damask/internal/problem"
	"damask/internal/text"
)

func TestValues(t *testing.T) {
	e := env(t)
	for _, row := range []struct {
		rigids, t string
		size      int
		want      string
	}{
		{"", "Bool", 0, ""}, {"", "Bool", 1, "False True"}, {"", "Bool", 6, "False True"}, {"", "Unit", 2, "Unit"}, {"", "Int", 3, "0 1"}, {"", "Int", 0, ""},
		{"", "Nat", 1, "Z"}, {"", "Nat", 3, "Z (S Z) (S (S Z))"}, {"", "Three", 1, "A B C"},
		{"", "Void", 1, "_"}, {"", "Void", 0, ""}, {"", "Void", 6, "_"}, {"Type", "r0", 6, "_"}, {"", "Int -> Bool", 2, "_"}, {"", "forall a. a", 1, "_"}, {"", "IO Int", 1, "_"}, {"Type", "Elem r0", 3, "_"},
		{"", "Elem Int", 3, "False True"}, {"", "Elem (List Unit)", 3, "Unit"}, {"", "Age", 1, ""}, {"", "Age", 2, "(Age 0) (Age 1)"},
		{"", "List Bool", 3, "Nil (Cons False Nil) (Cons True Nil)"}, {"", "List Unit", 5, "Nil (Cons Unit Nil) (Cons Unit (Cons Unit Nil))"}, {"Type", "List r0", 5, "Nil (Cons _ Nil) (Cons _ (Cons _ Nil))"}, {"", "List Void", 2, "Nil"},
		{"", "Pair Nat Nat", 5, "(Pair Z Z) (Pair Z (S Z)) (Pair (S Z) Z) (Pair Z (S (S Z))) (Pair (S Z) (S Z)) (Pair (S (S Z)) Z)"},
		{"", "Pair (List Unit) Nat", 5, "(Pair Nil Z) (Pair Nil (S Z)) (Pair Nil (S (S Z))) (Pair (Cons Unit Nil) Z)"},
		{"", "Pair Bool Int", 6, "(Pair False 0) (Pair False 1) (Pair True 0) (Pair True 1)"},
		{"Type", "Vec r0 'Z", 6, "VNil"}, {"Type", "Vec r0 ('S 'Z)", 6, "(VCons _ VNil)"}, {"Type, Nat", "Vec r0 r1", 5, "VNil (VCons _ VNil) (VCons _ (VCons _ VNil))"}, {"", "Fin 'Z", 6, ""}, {"", "Fin ('S ('S 'Z))", 6, "FZ (FS FZ)"}, {"Nat", "Fin r0", 3, "FZ (FS FZ) (FS (FS FZ))"},
		{"", "Is Int Int", 6, "Refl"}, {"", "Is Int Bool", 6, ""}, {"Type", "Is r0 Int", 6, "Refl"}, {"Type", "Is r0 (List r0)", 6, ""}, {"", "Ty Int", 6, "TInt"}, {"Type", "Ty r0", 2, "TInt TBool (TList TInt) (TList TBool)"},
		// what is around and to the left is known, what is to the right is not
		{"Type", "Pair (Is r0 Int) r0", 6, "(Pair Refl 0) (Pair Refl 1)"}, {"Type", "Pair r0 (Is r0 Int)", 6, "(Pair _ Refl)"}, {"Type", "Pair (Ty r0) r0", 3, "(Pair TInt 0) (Pair TInt 1) (Pair TBool False) (Pair TBool True)"},
		{"Type", "Pair (Is r0 Int) (Is r0 Bool)", 6, ""}, {"Type", "Pair (Ty r0) (Ty r0)", 5, "(Pair TInt TInt) (Pair TBool TBool) (Pair (TList TInt) (TList TInt)) (Pair (TList TBool) (TList TBool))"},
		{"", "Some", 4, "(Some _ TInt) (Some _ TBool) (Typed TInt 0) (Typed TInt 1) (Typed TBool False) (Typed TBool True) (Some _ (TList TInt)) (Some _ (TList TBool)) (Typed (TList TInt) Nil) (Typed (TList TBool) Nil)"},
		{"Type, Nat", "Both r0 r1", 6, "(Both VNil VNil)"}, {"Nat", "Both Bool ('S r0)", 6, ""}, {"Type", "Shown r0", 2, "None (Shown _)"},
		{"Nat", "Pair (Plus ('S 'Z) 'Z ('S r0)) (Fin r0)", 6, ""}, {"Nat", "Pair (Plus ('S ('S 'Z)) 'Z ('S r0)) (Fin r0)", 6, "(Pair Plus FZ)"},
		{"", "Wide", 6, "(Wide 0 0 0 0 0) (Wide 0 0 0 0 1) (Wide 0 0 0 1 0) (Wide 0 0 0 1 1) (Wide 0 0 1 0 0) (Wide 0 0 1 0 1) (Wide 0 0 1 1 0) (Wide 0 0 1 1 1) " + wideOnes()},
		{"", "Wide", 5, ""},
	} {
		l, err := Values(e, rigids(row.rigids), typ(row.t), row.size)
		if got := show(l); err != api.OK || got != row.want {
			t.Errorf("%s, %d: %s, not %s (%d)", row.t, row.size, got, row.want, err)
		}
	}
}

// wideOnes are the values of Wide after the first eight.
func wideOnes() string {
	var l []string
	for n := 8; n < 32; n++ {
		s := "(Wide"
		for bit := 16; bit > 0; bit /= 2 {
			s += " " + string(rune('0'+n/bit%2))
		}
		l = append(l, s+")")
	}
	return strings.Join(l, " ")
}

func TestValuesErrors(t *testing.T) {
	e := env(t)
	cons := lines(20, "K#0 : Many; K#1 : Many; K#2 : Many; K#3 : Many; K#4 : Many; K#5 : Many; K#6 : Many; K#7 : Many; K#8 : Many; K#9 : Many; L#0 : Many; L#1 : Many; L#2 : Many; L#3 : Many; L#4 : Many; L#5 : Many; L#6 : Many; L#7 : Many; L#8 : Many; L#9 : Many; ")
	many := problem.Env("data Many : Type { " + cons + " }; data One : Type { One : One; Of : Many -> One; }; data Loop : Type -> Type { Loop : Loop a -> Loop (Loop a) -> Loop a -> Loop a; };")
	for _, row := range []struct {
		env    api.Env
		rigids []api.Rigid
		t      api.Type
		size   int
		count  int
		want   api.Errno
	}{
		{e, nil, typ("Bool"), -1, 0, api.ErrArg}, {e, nil, typ("Bool"), 7, 0, api.ErrArg}, {e, nil, api.Type{}, 1, 0, api.ErrArg}, {e, nil, text.Deep(41), 1, 0, api.ErrArg}, {e, []api.Rigid{{}}, typ("Bool"), 1, 0, api.ErrArg},
		{many, nil, typ("Many"), 1, 400, api.OK}, {many, nil, typ("Many"), 6, 400, api.OK}, {many, nil, typ("One"), 1, 1, api.OK}, {many, nil, typ("One"), 2, 0, api.ErrFull}, {many, nil, typ("One"), 6, 0, api.ErrFull},
		{many, nil, typ("Loop Int"), 6, 0, api.OK}, {e, nil, typ("Pair (List Bool) (List Bool)"), 6, 5, api.OK}, {e, nil, typ("Spin"), 1, 0, api.ErrFuel},
		{e, nil, typ("List (Pair Three Three)"), 6, 1 + 9, api.OK}, {e, nil, typ("List Three"), 6, 1 + 3 + 9, api.OK}, {e, nil, typ("Pair (List Three) Three"), 6, 3 + 9, api.OK},
	} {
		l, err := Values(row.env, row.rigids, row.t, row.size)
		if err != row.want || len(l) != row.count {
			t.Error(text.Show(row.t), row.size, len(l), err)
		}
	}
}

func TestMatches(t *testing.T) {
	for _, row := range []struct {
		row, values string
		want        bool
	}{
		{"_", "True", true}, {"x", "_", true}, {"~True", "False", true}, {"~True", "_", true}, {"True", "True", true}, {"True", "False", false}, {"True", "_", false}, {"!True", "True", true}, {"!True", "_", false}, {"x@True", "False", false}, {"x@y", "_", true}, {"!(~True)", "_", true},
		{"1", "1", true}, {"1", "2", false}, {"1", "_", false}, {"1", "True", false}, {"True", "1", false},
		{"(S x)", "(S Z)", true}, {"(S x)", "(S _)", true}, {"(S Z)", "(S _)", false}, {"(S (S x))", "(S Z)", false}, {"(S (x@(!Z)))", "(S Z)", true}, {"S", "(S Z)", false}, {"(S Z Z)", "(S Z)", false}, {"(P x 1)", "(P _ 1)", true}, {"(P 1 x)", "(P _ 1)", false},
		{"True False", "True False", true}, {"True False", "True True", false}, {"True x", "False True", false}, {"x y z", "_ 1 (S Z)", true},
	} {
		if ok, err := Matches(pats(row.row), pats(row.values)); err != api.OK || ok != row.want {
			t.Error(row, ok, err)
		}
	}
	if ok, err := Matches(nil, nil); err != api.OK || !ok {
		t.Error(ok, err)
	}
	x := pats("_")
	for i, row := range [][2][]api.Pat{
		{x, nil}, {nil, x}, {x, pats("_ _")}, {x, pats("x")}, {x, pats("!True")}, {x, pats("~True")}, {x, pats("x@True")}, {x, pats("(S x)")}, {x, pats("(S (!Z))")}, {pats("1"), pats("x")}, {pats("True _"), pats("False x")},
		{{{}}, x}, {x, {{}}}, {{{Op: api.PVar}}, x}, {{{Op: api.PInt, N: -1}}, x}, {x, {{Op: api.PInt, N: -1}}}, {x, {{Op: api.PCon}}}, {x, {{Op: api.PCon, S: "S", Args: []api.Pat{{}}}}}, {{{Op: api.PBang}}, x},
		{slices.Repeat(x, 41), slices.Repeat(x, 41)},
	} {
		if ok, err := Matches(row[0], row[1]); err != api.ErrArg || ok {
			t.Error(i, ok, err)
		}
	}
	if ok, err := Matches(slices.Repeat(x, 40), slices.Repeat(x, 40)); err != api.OK || !ok {
		t.Error(ok, err)
	}
}

func TestPossible(t *testing.T) {
	e := env(t)
	for _, row := range []struct{ rigids, given, t, want string }{
		{"", "", "Bool", "False True"}, {"", "", "Three", "A B C"}, {"", "", "Int", ""}, {"", "", "Void", ""}, {"Type", "", "r0", ""}, {"", "", "Int -> Int", ""}, {"", "", "forall a. a", ""}, {"", "", "IO Int", ""}, {"", "", "Age", "Age"}, {"", "", "Elem Int", "False True"}, {"Type", "", "Elem r0", ""},
		{"Type, Nat", "", "Vec r0 r1", "VNil VCons"}, {"Type, Nat", "r1 ~ 'Z", "Vec r0 r1", "VNil"}, {"Type, Nat", "'S r1 ~ r1", "Vec r0 r1", ""}, {"Type, Nat", "r1 ~ 'S 'Z", "Vec r0 r1", "VCons"}, {"Type, Nat", "Show r0, r1 ~ 'S 'Z", "Vec r0 r1", "VCons"}, {"Type, Nat", "Show Int", "Vec r0 r1", "VNil VCons"},
		{"Type", "", "Ty r0", "TInt TBool TList TPair"}, {"Type, Type", "r0 ~ List r1", "Ty r0", "TList"}, {"Type, Type", "r0 ~ List r1, List r1 ~ List Int", "Ty r0", "TList"}, {"Type", "Elem (List r0) ~ Int", "Ty r0", "TInt"}, {"Type", "Elem r0 ~ Bool", "Ty (Elem r0)", "TBool"}, {"Type", "Elem r0 ~ Bool", "Ty r0", "TInt TBool TList TPair"}, {"", "", "Ty (Int -> Int)", ""}, {"", "", "Ty (forall a. a)", ""},
		{"Type", "r0 ~ Bool", "r0", "False True"}, {"Type", "r0 ~ Bool, r0 ~ Int", "r0", ""}, {"", "Int ~ Bool", "Three", ""}, {"Nat, Nat", "Add r0 r1 ~ 'Z", "Fin (Add r0 r1)", ""}, {"Nat, Nat", "Add r0 r1 ~ 'S 'Z", "Fin (Add r0 r1)", "FZ FS"}, {"Nat", "", "Plus 'Z 'Z ('S r0)", ""}, {"Nat, Nat", "", "Plus r1 'Z ('S r0)", "Plus"},
	} {
		l, err := Possible(e, rigids(row.rigids), typs(row.given), typ(row.t))
		if got := strings.Join(l, " "); err != api.OK || got != row.want {
			t.Errorf("%s, %s: %s, not %s (%d)", row.given, row.t, got, row.want, err)
		}
	}
	for i, row := range []struct {
		rigids []api.Rigid
		given  []api.Type
		t      api.Type
		want   api.Errno
	}{
		{nil, nil, api.Type{}, api.ErrArg}, {nil, []api.Type{{}}, typ("Bool"), api.ErrArg}, {[]api.Rigid{{}}, nil, typ("Bool"), api.ErrArg}, {nil, nil, text.Deep(41), api.ErrArg}, {nil, typs("Spin ~ Int"), typ("Bool"), api.ErrFuel}, {nil, nil, typ("Spin"), api.ErrFuel},
	} {
		if l, err := Possible(e, row.rigids, row.given, row.t); err != row.want || l != nil {
			t.Error(i, l, err)
		}
	}
}

func TestProgram(t *testing.T) {
	for _, row := range []struct{ source, want string }{
		{"f : Bool -> Int; f True = 1;", "f"}, {"f : Bool -> Int; f True = 1; f False = 2;", ""}, {"f True = 1;", ""}, {"f : Bool -> Int; f x = 1;", ""},
		{"f : Int; f = 1;", ""}, {"f : Int; f | True = 1;", "f"}, {"f : Int -> Int; f = add 1;", ""}, {"f : Int -> Int -> Int; f 1 = add 1;", "f"}, {"f : Int -> Int -> Int; f 1 = add 1; f _ = add 2;", ""},
		{"f : Bool -> Int; f True = 1; f x | x = 2;", "f"}, {"f : Bool -> Int; f True | True = 1; f x = 2;", ""}, {"f : Bool -> Int; f x | x = 1 | True = 2;", "f"},
		{"f True = 1; f : Bool -> Int;", "f"}, {"f True = 1; g : Bool -> Int; f : Bool -> Int; g x = 1;", "f"}, {"f x = 1; f : Bool -> Int;", ""},
		{"g : Bool -> Int; g True = 1; f : Bool -> Bool; f False = True; h : Nat -> Nat; h x = x;", "g f"},
		{"f : forall a. List a -> a; f (Cons x _) = x;", "f"}, {"f : List a -> a; f (Cons x _) = x;", "f"}, {"f : forall a (n : Nat). Vec a ('S n) -> a; f (VCons x _) = x;", ""}, {"f : forall a (n : Nat). Vec a n -> a; f (VCons x _) = x;", "f"},
		{"f : forall a (n : Nat). Vec a n -> Vec a n -> Bool; f VNil VNil = True; f (VCons x y) (VCons _ z) = False;", ""},
		// its equations are given
		{"f : forall a (n : Nat). n ~ 'S 'Z => Vec a n -> a; f (VCons x VNil) = x;", ""}, {"f : forall a (n : Nat). Show a => n ~ 'S 'Z => Vec a n -> a; f (VCons x VNil) = x;", ""}, {"f : forall a (n : Nat). Show a => Vec a n -> a; f (VCons x VNil) = x;", "f"}, {"f : forall a. a ~ Int => a -> Int; f 1 = 2; f _ = 3;", ""}, {"f : forall a. a ~ Bool => a -> Int; f True = 2;", "f"}, {"f : forall a. Int ~ Bool => a -> Bool -> Int; f x True = 2;", ""},
		// foralls that are not at the beginning, and too few arguments
		{"f : (forall a. a -> a) -> Bool -> Int; f g True = 1;", ""}, {"f : Bool -> forall a. a -> a; f True = \\x -> x;", ""}, {"f : forall a. Show a => forall b. Bool -> b; f True = f True;", ""}, {"f : Bool -> (Show Int => Bool -> Int); f True True = 1;", ""}, {"f : Bool -> (Show Int => Bool -> Int); f True = g; g : Show Int => Bool -> Int; g x = 1;", "f"},
		{"f : forall (k : Type) (f : k -> Type) (a : k). Proxy k a -> Bool -> Int; f Proxy True = 1;", "f"}, {"f : (Show Int => Bool) -> Bool -> Int; f x True = 1;", "f"},
		// what has an error is left out
		{"f : Bool -> Int; f A = 1;", ""}, {"f : Bool -> Int; f (True x) = 1;", ""}, {"f : Bool -> Int; f 1 = 1;", ""}, {"f : Spin -> Int; f True = 1;", ""}, {"f : Spin -> Bool -> Int; f x True = 1;", "f"},
		{"f : Int -> Int; " + lines(120, "f # = 1;"), "f"}, {"f : Int -> Int; " + lines(121, "f # = 1;"), ""}, {"f : Int -> Bool -> Int; " + lines(120, "f # True = 1;"), ""},
		{"f : Int -> Bool -> Int; " + lines(100, "f # True = 1; ") + "f 100 x = 1;", "f"},
	} {
		p, e := program(t, world+"data Proxy : forall (k : Type). k -> Type { Proxy : forall (k : Type) (a : k). Proxy k a; };"+row.source)
		l, err := Program(p, e)
		var names []string
		for _, i := range l {
			names = append(names, strings.TrimPrefix(p.Decls[i].Name, "M."))
		}
		if got := strings.Join(names, " "); err != api.OK || got != row.want {
			t.Errorf("%s: %s, not %s (%d)", row.source, got, row.want, err)
		}
		if !slices.IsSorted(l) {
			t.Error(row.source, l)
		}
	}
}

// TestNoClauses: a definition without any clause leaves everything missing.
func TestNoClauses(t *testing.T) {
	p, e := program(t, "f : Bool -> Int; f True = 1; f False = 2;")
	for i := range p.Decls {
		p.Decls[i].Alts = nil
	}
	if l, err := Program(p, e); err != api.OK || len(l) != 1 || p.Decls[l[0]].Op != api.DBind {
		t.Error(l, err)
	}
}

// TestManyWays: where there are very many ways to few values, or to very many, this is found out soon.
func TestManyWays(t *testing.T) {
	e := problem.Env("data Is : Type -> Type -> Type { Refl : Is a a; }; data Pair : Type -> Type -> Type { Pair : a -> b -> Pair a b; }; data Many : Type { " + lines(300, "K# : Many; ") + "};" + `
		data Nothing : Type { Nothing : Many -> Many -> Many -> Many -> Is Int Bool -> Nothing; };
		data Late : Type { Late : Many -> Is Int Bool -> Late; Soon : Late; };
		data Much : Type { Much : Many -> Many -> Many -> Many -> Many -> Much; };
		data Tree : Type { Leaf : Tree; Node : Tree -> Tree -> Tree; };
		data Any : Type -> Type { ` + lines(40, "A# : a -> Any a -> Any Int; ") + `};`)
	for _, row := range []struct {
		t     string
		size  int
		count int
		want  api.Errno
	}{
		{"Nothing", 6, 0, api.ErrFuel}, {"Nothing", 5, 0, api.OK}, {"Late", 6, 1, api.OK}, {"Much", 5, 0, api.OK}, {"Much", 6, 0, api.ErrFull}, {"Pair Many Many", 2, 0, api.OK}, {"Pair Many Many", 3, 0, api.ErrFull}, {"Pair (Pair Many Many) Many", 6, 0, api.ErrFuel}, {"Pair (Pair Many Many) (Is Int Bool)", 6, 0, api.ErrFuel},
		{"Pair Many (Is Int Bool)", 6, 0, api.OK}, {"Pair Many Unit", 6, 300, api.OK}, {"Tree", 6, 4, api.OK}, {"Pair Tree Tree", 6, 3, api.OK}, {"Any Bool", 6, 0, api.OK},
	} {
		l, err := Values(e, nil, typ(row.t), row.size)
		if err != row.want || len(l) != row.count {
			t.Error(row.t, row.size, len(l), err)
		}
	}
	if l, err := Values(e, rigids("Type"), typ("Any r0"), 6); err != api.ErrFuel || l != nil {
		t.Error(len(l), err)
	}
}
