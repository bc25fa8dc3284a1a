package core

import (
	"testing"

	"damask/api"
	"damask/internal/problem"
	"damask/internal/text"
	"damask/types"
)

func globals() []api.Sig {
	var l []api.Sig
	for _, row := range [][2]string{
		{"id", "forall a. a -> a"}, {"five", "Int"}, {"list", "List Int"}, {"eqInt", "Eq Int"}, {"eqList", "forall a. Eq a => Eq (List a)"}, {"show", "forall a. Eq a => a -> Int"},
		{"conv", "forall a b. a ~ b => a -> b"}, {"five", "Bool"}, {"poly", "(forall a. a -> a) -> Int"}, {"io", "IO Int"}, {"same", "forall (k : Type) (a : k). Proxy k a -> Proxy k a"},
		// whether these have a kind, nobody asks
		{"half", "Pair Int"}, {"over", "Pair Int Int Int"}, {"part", "Conv Int"}, {"odd", "Conv Int => Int"}, {"bare", "List"}, {"class", "Eq Int Int"}, {"closer", "Eq Int Int => Int"},
	} {
		l = append(l, api.Sig{Name: row[0], Type: text.Type(row[1])})
	}
	return l
}

// typeText is the type of a term in a context, or an error.
func typeText(e api.Env, context, term string) (string, surroundings) {
	s := around(context)
	t, err := Type(e, globals(), s.kinds, s.pairs, s.of, s.term(term))
	if err != api.OK {
		if t.Op != 0 {
			return "a result beside an error", s
		}
		return errorText(err), s
	}
	return showType(t), s
}

func checkTypes(t *testing.T, rows [][3]string) {
	t.Helper()
	e := problem.Env(declared)
	for _, row := range rows {
		got, s := typeText(e, row[0], row[1])
		want := row[2]
		if want != "error 26" && want != "error 5" && want != "error 2" {
			want = showType(s.typ(want))
		}
		if got != want {
			t.Errorf("%s | %s: %s, not %s", row[0], row[1], got, want)
		}
	}
}

const wrong = "error 26"

func TestVariables(t *testing.T) {
	checkTypes(t, [][3]string{
		{"", "5", "Int"}, {"", "-7", "Int"}, {"x : Int;", "x", "Int"}, {"x : Int; y : Bool;", "x", "Int"}, {"x : Int; y : Bool;", "y", "Bool"}, {"x : Int;", "#1", wrong}, {"", "#0", wrong},
		{"", "$five", "Int"}, {"", "$id", "forall a. a -> a"}, {"", "$no", wrong}, {"a : Type;", "$id", "forall a. a -> a"}, {"", "$add", wrong}, {"", "$eqList", "forall a. Eq a => Eq (List a)"},
		{"a : Type; b : Type; x : a; y : b;", "x", "a"}, {"a : Type; b : Type; x : a; y : b -> a;", "y", "b -> a"}, {"a : Type; x : Eq a;", "x", "Eq a"}, {"n : Nat; x : Vec Int n;", "x", "Vec Int n"},
		// constructors
		{"", "True", "Bool"}, {"", "Unit", "Unit"}, {"", "Nil", "forall a. List a"}, {"", "Cons", "forall a. a -> List a -> List a"}, {"", "VNil", "forall a (n : Nat). n ~ 'Z => Vec a n"}, {"", "VCons", "forall a (n : Nat) (m : Nat). n ~ 'S m => a -> Vec a m -> Vec a n"},
		{"", "Some", "forall a. Eq a => a -> Some"}, {"", "Age", wrong}, {"", "Wrap", wrong}, {"", "No", wrong}, {"", "Nat", wrong}, {"", "Poly", "(forall a. a -> a) -> Poly"}, {"", "Both", "forall a b c. a ~ List b => b ~ c => Eq b => b -> c -> Both a"},
		// of classes
		{"", "Empty%", "Empty"}, {"", "Eq%", "forall a. (a -> a -> Bool) -> Eq a"}, {"", "Ord%", "forall a. Eq a => (a -> a -> Bool) -> (a -> a -> Bool) -> Ord a"}, {"", "Conv%", "forall a b. (a -> b) -> Conv a b"}, {"", "Functor%", "forall (f : Type -> Type). (forall a b. (a -> b) -> f a -> f b) -> Functor f"},
		{"", "Eq", wrong}, {"", "List%", wrong}, {"", "Eq%%", wrong}, {"", "Plus%", wrong},
		// contexts that are not right
		{"a : Nat; b : a;", "5", wrong}, {"a : List;", "5", wrong}, {"a : Type; b : List a -> Nat;", "5", "Int"}, {"k : Type; a : k; x : Proxy k a;", "x", "Proxy k a"}, {"x : List;", "5", wrong}, {"x : 'Z;", "5", wrong}, {"x : Eq Int;", "5", "Int"}, {"x : Eq List;", "5", wrong}, {"x : Eq;", "5", wrong}, {"x : v0;", "5", wrong}, {"x : m0;", "5", wrong}, {"x : r0;", "5", wrong}, {"x : No;", "5", wrong}, {"x : Plus 'Z;", "5", wrong}, {"a : Constraint; x : a;", "5", wrong}, {"x : Int ~ Int;", "5", wrong},
		{"q : Int ~ Bool;", "5", "Int"}, {"q : Int ~ 'Z;", "5", wrong}, {"q : List ~ IO;", "5", "Int"}, {"q : Type ~ Nat;", "5", "Int"}, {"q : Eq Int ~ Empty;", "5", "Int"}, {"q : v0 ~ v0;", "5", wrong}, {"q : Plus 'Z ~ Plus 'Z;", "5", wrong},
	})
}

func TestFunctions(t *testing.T) {
	checkTypes(t, [][3]string{
		// the chapter's examples
		{"", "(tlam a {Type} (lam x {a} x))", "forall a. a -> a"}, {"q : Int ~ Bool;", "(cast 5 q)", "Bool"},
		{"", "(lam x {Int} x)", "Int -> Int"}, {"", "(lam x {Int} (lam y {Bool} x))", "Int -> Bool -> Int"}, {"", "(lam x {Int} (lam y {Bool} y))", "Int -> Bool -> Bool"}, {"", "(lam x {List} x)", wrong}, {"", "(lam x {'Z} 5)", wrong}, {"", "(lam x {v0} 5)", wrong},
		{"", "(lam x {Eq Int} x)", "Eq Int => Eq Int"}, {"", "(lam x {Eq Int} 5)", "Eq Int => Int"}, {"", "(lam x {Eq List} 5)", wrong}, {"", "(lam x {Eq} 5)", wrong}, {"", "(lam x {Int ~ Int} 5)", wrong}, {"c : Constraint;", "(lam x {c} 5)", wrong}, {"", "(lam x {Conv Int} 5)", wrong}, {"", "(lam x {Empty} 5)", "Empty => Int"}, {"", "(lam x {Functor List} x)", "Functor List => Functor List"}, {"", "(lam x {Functor Int} x)", wrong}, {"", "(lam x {forall a. a} x)", "(forall a. a) -> forall a. a"}, {"", "(lam x {Eq Int => Int} x)", "(Eq Int => Int) -> Eq Int => Int"},
		{"", "(lam x {Int} $eqInt)", "Int -> Eq Int"}, // the type of what makes a dictionary is of this form, too
		{"", "(app (lam x {Int} x) 5)", "Int"}, {"", "(app (lam x {Int} x) True)", wrong}, {"", "(app 5 5)", wrong}, {"", "(app $id 5)", wrong}, {"", "(app (at $id {Int}) 5)", "Int"}, {"", "(app (at $id {Bool}) 5)", wrong}, {"", "(app (at Cons {Int}) 5 $list)", "List Int"}, {"", "(app (at Cons {Int}) $list $list)", wrong}, {"", "(app $poly $id)", "Int"}, {"", "(app $poly (at $id {Int}))", wrong},
		{"", "(app (at $eqList {Int}) $eqInt)", "Eq (List Int)"}, {"", "(app (at $eqList {Bool}) $eqInt)", wrong}, {"", "(app (at $show {Int}) $eqInt 5)", "Int"}, {"", "(app (at $show {Int}) 5 $eqInt)", wrong}, {"x : Eq Int => Bool;", "(app x $eqInt)", "Bool"}, {"x : Int ~ Int => Bool; y : Eq Int;", "(app x y)", wrong}, {"", "(app $five 5 #9)", wrong}, {"", "(app (lam x {Int} x) #3)", wrong},
		{"", "(app (at Eq% {Int}) (lam x {Int} (lam y {Int} True)))", "Eq Int"}, {"", "(app (at Ord% {Int}) $eqInt (lam x {Int} (lam y {Int} True)))", "(Int -> Int -> Bool) -> Ord Int"}, {"", "(app (at Ord% {Int}) (lam x {Int} x))", wrong},
		// of types
		{"", "(tlam a {Type} 5)", "forall a. Int"}, {"", "(tlam n {Nat} (lam x {Vec Int n} x))", "forall (n : Nat). Vec Int n -> Vec Int n"}, {"", "(tlam a {List} 5)", wrong}, {"", "(tlam a {'Z} 5)", wrong}, {"", "(tlam k {Type} (tlam a {k} (lam x {Proxy k a} x)))", "forall (k : Type) (a : k). Proxy k a -> Proxy k a"}, {"", "(tlam a {Type} (tlam b {a} 5))", "forall (a : Type) (b : a). Int"}, {"", "(tlam n {Nat} (tlam b {n} 5))", wrong},
		{"", "(lam x {Int} (tlam a {Type} x))", "Int -> forall a. Int"}, {"a : Type; x : a;", "(tlam b {Type} x)", "forall b. a"}, {"a : Type; x : a;", "(tlam b {Type} (tlam c {Type} (lam y {c -> a} (app y x))))", wrong}, {"a : Type; x : a;", "(tlam b {Type} (tlam c {Type} (lam y {a -> c} (app y x))))", "forall b c. (a -> c) -> c"}, {"a : Type; x : a;", "(tlam b {Type} (lam y {b} x))", "forall b. b -> a"},
		{"", "(at $id {Int})", "Int -> Int"}, {"a : Type;", "(at $id {a})", "a -> a"}, {"", "(at $id {List})", wrong}, {"", "(at $id {'Z})", wrong}, {"", "(at $id {v0})", wrong}, {"", "(at 5 {Int})", wrong}, {"", "(at (at $id {Int}) {Int})", wrong}, {"", "(at $same {Nat} {'Z})", "Proxy Nat 'Z -> Proxy Nat 'Z"}, {"", "(at $same {Nat} {Int})", wrong}, {"", "(at $same {Type} {Int})", "Proxy Type Int -> Proxy Type Int"}, {"", "(at $same {Type -> Type} {List})", "Proxy (Type -> Type) List -> Proxy (Type -> Type) List"}, {"", "(at $same {'Z} {'Z})", wrong}, {"", "(at $id {forall a. a})", "(forall a. a) -> forall a. a"}, {"", "(at $id {Eq Int})", wrong}, {"", "(at $id {Plus 'Z})", wrong},
		{"a : Type; b : Type;", "(at (tlam c {Type} (lam x {c} (lam y {b} x))) {a -> b})", "(a -> b) -> b -> a -> b"},
		// of coercions
		{"", "(qlam q {Int} {Bool} (lam x {Int} (cast x q)))", "Int ~ Bool => Int -> Bool"}, {"", "(qlam q {Int} {'Z} 5)", wrong}, {"", "(qlam q {List} {IO} 5)", "List ~ IO => Int"}, {"", "(qlam q {No} {No} 5)", wrong}, {"a : Type;", "(qlam q {a} {Int} (tlam b {Type} (lam x {a} (cast x q))))", "a ~ Int => forall b. a -> Int"},
		{"q : Int ~ Bool;", "(qlam r {Bool} {Int} (cast 5 q))", "Bool ~ Int => Bool"}, {"q : Int ~ Bool;", "(qlam r {Bool} {Int} (cast 5 r))", wrong},
		{"", "(by (at $conv {Int} {Int}) {Int})", "Int -> Int"}, {"", "(by (at $conv {Int} {Bool}) {Int})", wrong}, {"q : Int ~ Bool;", "(by (at $conv {Int} {Bool}) q)", "Int -> Bool"}, {"q : Int ~ Bool;", "(by (at $conv {Bool} {Int}) q)", wrong}, {"q : Int ~ Bool;", "(by (at $conv {Bool} {Int}) (sym q))", "Bool -> Int"}, {"", "(by (at $show {Int}) {Int})", wrong}, {"", "(by 5 {Int})", wrong}, {"q : Int ~ Bool;", "(by (by (at $conv {Int} {Bool}) q) q)", wrong}, {"", "(by (at VNil {Int} {'Z}) {'Z})", "Vec Int 'Z"}, {"", "(by (at VNil {Int} {'Z}) {Int})", wrong},
		// casts
		{"", "(cast 5 {Int})", "Int"}, {"", "(cast 5 {Bool})", wrong}, {"", "(cast 5 #0)", wrong}, {"q : Int ~ Bool;", "(cast True q)", wrong}, {"q : Int ~ Bool;", "(cast True (sym q))", "Int"}, {"q : Int ~ Bool;", "(cast $list (app {List} q))", "List Bool"}, {"q : Eq Int ~ Eq Bool;", "(cast $eqInt q)", "Eq Bool"}, {"q : Int ~ Bool; x : Eq Int;", "(cast x (app {Eq} q))", "Eq Bool"},
	})
}

func TestLets(t *testing.T) {
	checkTypes(t, [][3]string{
		{"", "(let (x {Int} 5) x)", "Int"}, {"", "(let (x {Bool} 5) x)", wrong}, {"", "(let (x {Int} x) x)", "Int"}, {"", "(let (x {Int} y) (y {Int} x) y)", "Int"}, {"", "(let (x {Int} y) (y {Bool} True) y)", wrong}, {"", "(let (x {Int} 5) (y {Bool} True) x)", "Int"}, {"", "(let (x {Int} 5) (y {Bool} True) y)", "Bool"}, {"x : Bool;", "(let (y {Int} 5) x)", "Bool"}, {"", "(let 5)", "Int"},
		{"", "(let (x {Eq Int} $eqInt) x)", "Eq Int"}, {"", "(let (x {Eq Int} x) 5)", "Int"}, {"", "(let (x {List} x) 5)", wrong}, {"", "(let (x {Int ~ Int} x) 5)", wrong}, {"", "(let (x {v0} x) 5)", wrong}, {"", "(let (x {Int} 5) (y {List} 5) x)", wrong}, {"a : Type; x : a;", "(let (y {forall b. b -> a} (tlam b {Type} (lam z {b} x))) (app (at y {Int}) 5))", "a"},
	})
}

func TestNewTypes(t *testing.T) {
	checkTypes(t, [][3]string{
		{"", "(new Age 5)", "Age"}, {"", "(new Age True)", wrong}, {"", "(new Age {Int} 5)", wrong}, {"", "(new List {Int} $list)", wrong}, {"", "(new No 5)", wrong}, {"", "(new Eq {Int} 5)", wrong}, {"", "(old Age (new Age 5))", "Int"}, {"", "(old Age 5)", wrong}, {"", "(new Age (new Age 5))", wrong}, {"x : Age;", "(old Age x)", "Int"},
		{"", "(new Wrap {List} {Int} $list)", "Wrap List Int"}, {"", "(new Wrap {List} {Bool} $list)", wrong}, {"", "(new Wrap {List} $list)", wrong}, {"", "(new Wrap {Int} {Int} 5)", wrong}, {"", "(old Wrap {List} {Int} (new Wrap {List} {Int} $list))", "List Int"}, {"", "(old Wrap {IO} {Int} (new Wrap {List} {Int} $list))", wrong},
		{"k : Type; a : k; x : Proxy k a -> Int;", "(new In {k} {a} x)", "In k a"}, {"k : Type; a : k; x : In k a;", "(old In {k} {a} x)", "Proxy k a -> Int"}, {"k : Type; a : k; x : Proxy k a -> Int;", "(new In {Type} {a} x)", wrong}, {"k : Type; a : k; x : Proxy k a -> Int;", "(new In {Type} {k} x)", wrong}, {"x : Proxy Nat 'Z -> Int;", "(new In {Nat} {'Z} x)", "In Nat 'Z"}, {"x : Proxy Nat 'Z -> Int;", "(new In {Type} {'Z} x)", wrong},
		// no cases of them, and no constructors
		{"x : Age;", "(case x y {Int} (_ 5))", wrong}, {"x : Age;", "(case x y {Int} (Age () () (z) z))", wrong}, {"x : Age;", "(case x y {Int})", wrong},
	})
}

func TestCases(t *testing.T) {
	checkTypes(t, [][3]string{
		{"", "(case 5 x {Bool} (1 True) (-1 False) (_ True))", "Bool"}, {"", "(case 5 x {Bool} (1 True))", wrong}, {"", "(case 5 x {Bool})", wrong}, {"", "(case 5 x {Int} (_ x))", "Int"}, {"", "(case 5 x {Bool} (1 True) (1 False) (_ True))", wrong}, {"", "(case 5 x {Bool} (_ True) (1 True))", wrong}, {"", "(case 5 x {Bool} (_ True) (_ True))", wrong}, {"", "(case 5 x {Bool} (1 5) (_ True))", wrong}, {"", "(case 5 x {Bool} (_ 5))", wrong}, {"", "(case 5 x {Int} (True () () () 5) (_ 5))", wrong}, {"", "(case #3 x {Int} (_ 5))", wrong},
		{"", "(case True x {Int} (True () () () 1) (False () () () 2))", "Int"}, {"", "(case True x {Int} (False () () () 1) (True () () () 2))", "Int"}, {"", "(case True x {Int} (True () () () 1))", wrong}, {"", "(case True x {Int} (True () () () 1) (_ 2))", "Int"}, {"", "(case True x {Int} (True () () () 1) (True () () () 2))", wrong}, {"", "(case True x {Int} (True () () () 1) (False () () () 2) (_ 3))", "Int"}, {"", "(case True x {Bool} (_ x))", "Bool"}, {"", "(case True x {Int} (1 1) (_ 2))", wrong}, {"", "(case True x {Int} (Nil () () () 1) (_ 2))", wrong}, {"", "(case True x {Int} (No () () () 1) (_ 2))", wrong}, {"", "(case True x {Int} (_ 2) (True () () () 1))", wrong}, {"", "(case True x {Int})", wrong},
		// the result
		{"", "(case 5 x {List} (_ Nil))", wrong}, {"", "(case 5 x {Eq Int} (_ $eqInt))", "Eq Int"}, {"", "(case 5 x {Int ~ Int} (_ 5))", wrong}, {"", "(case 5 x {v0} (_ 5))", wrong}, {"a : Type; y : a;", "(case 5 x {a} (_ y))", "a"}, {"", "(case 5 x {forall a. a -> a} (_ $id))", "forall a. a -> a"},
		// what is there of the scrutinee
		{"", "(case $id x {Int} (_ 5))", wrong}, {"", "(case (at $id {Int}) x {Int} (_ 5))", wrong}, {"a : Type; y : a;", "(case y x {Int} (_ 5))", wrong}, {"y : Elem Int;", "(case y x {Int} (_ 5))", wrong}, {"y : Void;", "(case y x {Int})", "Int"}, {"y : Void;", "(case y x {Int} (_ 1))", "Int"}, {"y : Void;", "(case y x {Int} (True () () () 1))", wrong}, {"", "(case $io x {Int} (_ 1))", "Int"},
		{"", "(case $list x {List Int} (Nil () () () x) (Cons () () (y z) (app (at Cons {Int}) y x)))", "List Int"}, {"", "(case $list x {List Int} (Nil () () () x) (Cons () () (y z) z))", "List Int"}, {"", "(case $list x {Int} (Nil () () () 5) (Cons () () (y z) z))", wrong}, {"", "(case (at Nil {Bool}) x {Bool} (Nil () () () True) (Cons () () (y z) y))", "Bool"}, {"", "(case Nil x {Int} (_ 1))", wrong},
		{"a : Type; n : Nat; y : Vec a n;", "(case y x {Int} (VNil () (q) () 1) (VCons (m) (q) (u v) 2))", "Int"}, {"a : Type; y : Vec a 'Z; z : a;", "(case y x {a} (VNil () (q) () z) (VCons (m) (q) (u v) u))", "a"}, {"a : Type; n : Nat; y : Vec a n;", "(case y x {Vec a n} (VNil () (q) () x) (VCons (m) (q) (u v) v))", wrong}, {"a : Type; n : Nat; y : Vec a n; z : Vec a ('S n);", "(case y x {Vec a n} (VNil () (q) () x) (VCons (m) (q) (u v) (cast (by (app (at VCons {a} {'S m} {m})) {'S m}) {a})))", wrong},
		{"a : Type; n : Nat; y : Vec a n;", "(case y x {Vec a n} (VNil () (q) () x) (VCons (m) (q) (u v) (app (by (at VCons {a} {n} {m}) q) u v)))", "Vec a n"}, {"a : Type; n : Nat; y : Vec a n;", "(case y x {Vec a 'Z} (VNil () (q) () (cast x (app {Vec a} q))) (VCons (m) (q) (u v) (cast v (app {Vec a} {m}))))", wrong}, {"a : Type; n : Nat; y : Vec a n; z : Vec a 'Z;", "(case y x {Vec a 'Z} (VNil () (q) () (cast x (app {Vec a} q))) (VCons (m) (q) (u v) z))", "Vec a 'Z"},
		// a kind that is bound does not get out
		{"n : Nat; y : Vec Int n; z : forall (o : Nat). Vec Int o -> Int;", "(case y x {Int} (VNil () (q) () 1) (VCons (m) (q) (u v) (app (at z {m}) v)))", "Int"}, {"a : Type; n : Nat; y : Vec a n; z : forall (o : Nat). Vec a o -> Proxy Nat o;", "(case y x {Proxy Nat n} (VNil () (q) () (app (at z {n}) x)) (VCons (m) (q) (u v) (app (at z {m}) v)))", wrong},
		{"y : Is Int Bool;", "(case y x {Bool} (Refl () (q) () (cast 5 (sym q))))", "Bool"}, {"y : Is Int Bool;", "(case y x {Int} (Refl () (q) () (cast True q)))", "Int"}, {"y : Is Int Bool;", "(case y x {Bool} (Refl () (q) () (cast 5 q)))", wrong},
		{"y : Some;", "(case y x {Int} (Some (a) () (e z) (app (at $show {a}) e z)))", "Int"}, {"y : Some;", "(case y x {Int} (Some (a) () (e z) (app (at $show {a}) z e)))", wrong}, {"y : Some;", "(case y x {Some} (Some (a) () (e z) (app (at Some {a}) e z)))", "Some"},
		{"y : Hidden;", "(case y x {Hidden} (Hidden (k a) () (z) (app (at Hidden {k} {a}) z)))", "Hidden"}, {"y : Hidden;", "(case y x {Int} (Hidden (k a) () (z) (case z u {Int} (Proxy () () () 7))))", "Int"},
		{"a : Type; y : Both a; w : a;", "(case y x {Both a} (Both (b c) (q r) (e u v) (app (by (by (at Both {a} {b} {c}) q) r) e u v)))", "Both a"}, {"a : Type; y : Both a; w : a;", "(case y x {Int} (Both (b c) (q r) (e u v) (case (cast w q) z {Int} (_ 1))))", "Int"}, {"a : Type; y : Both a; w : a;", "(case y x {Int} (Both (b c) (q r) (e u v) (app (at $show {c}) (cast e (app {Eq} r)) v)))", "Int"}, {"a : Type; y : Both a; w : a;", "(case y x {Int} (Both (b c) (q r) (e u v) (app (at $show {c}) (cast e (app {Eq} q)) v)))", wrong},
		{"y : Poly;", "(case y x {Int} (Poly () () (f) (app (at f {Int}) 5)))", "Int"},
		// of classes
		{"", "(case $eqInt x {Int -> Int -> Bool} (Eq% () () (f) f))", "Int -> Int -> Bool"}, {"", "(case $eqInt x {Eq Int} (Eq% () () (f) x))", "Eq Int"}, {"", "(case $eqInt x {Int} (_ 1))", "Int"}, {"", "(case $eqInt x {Int})", wrong}, {"", "(case $eqInt x {Int} (Ord% () () (f) 1))", wrong}, {"", "(case $eqInt x {Int} (Eq% () () (f) 1) (_ 2))", "Int"}, {"", "(case $eqInt x {Int} (Eq% () () (f) 1) (Eq% () () (f) 1))", wrong}, {"", "(case $eqInt x {Int} (1 2) (_ 2))", wrong}, {"", "(case $eqInt x {Int} (True () () () 2) (_ 2))", wrong}, {"", "(case $eqInt x {Int} (_ 2) (Eq% () () (f) 1))", wrong},
		{"a : Type; y : Ord a;", "(case y x {Eq a} (Ord% () () (e f g) e))", "Eq a"}, {"a : Type; y : Ord a;", "(case y x {a -> a -> Bool} (Ord% () () (e f g) g))", "a -> a -> Bool"}, {"a : Type; y : Ord a;", "(case y x {Eq a} (Ord% () () (e f g) f))", wrong}, {"y : Empty;", "(case y x {Int} (Empty% () () () 1))", "Int"}, {"g : Type -> Type; y : Functor g;", "(case y x {(Int -> Bool) -> g Int -> g Bool} (Functor% () () (f) (at f {Int} {Bool})))", "(Int -> Bool) -> g Int -> g Bool"}, {"a : Type; b : Type; y : Conv a b;", "(case y x {a -> b} (Conv% () () (f) f))", "a -> b"},
		{"a : Type; y : Eq (List a);", "(tlam b {Type} (case y x {List a -> List a -> Bool} (Eq% () () (f) f)))", "forall b. List a -> List a -> Bool"}, {"", "(case $half x {Int} (_ 1))", wrong}, {"", "(case $over x {Int} (_ 1))", wrong}, {"", "(case $part x {Int} (_ 1))", wrong}, {"", "(case $bare x {Int} (_ 1))", wrong}, {"", "(case $class x {Int} (_ 1))", wrong}, {"", "(app $odd $part)", wrong}, {"", "(app $closer $class)", wrong}, {"", "(case True x {Int} (Eq% () () (f) 1) (_ 2))", wrong}, {"", "(case $list x {Int} (True () () () 1) (False () () () 2))", wrong},
	})
}

// TestCoercions have both types, or none.
func TestCoercions(t *testing.T) {
	e := problem.Env(declared)
	for _, row := range [][4]string{
		// the chapter's examples
		{"q : List Int ~ List Bool;", "(left q)", "List", "List"}, {"n : Nat; m : Nat; q : Plus n m ~ 'S n;", "(left q)", wrong, ""},
		{"", "{Int}", "Int", "Int"}, {"", "{List}", "List", "List"}, {"", "{forall a. a}", "forall a. a", "forall a. a"}, {"", "{Eq Int}", "Eq Int", "Eq Int"}, {"", "{Int ~ Bool}", "Int ~ Bool", "Int ~ Bool"}, {"", "{v0}", wrong, ""}, {"", "{No}", wrong, ""}, {"", "{Plus 'Z}", wrong, ""}, {"", "{List List}", wrong, ""}, {"", "{m0}", wrong, ""},
		{"q : Int ~ Bool;", "q", "Int", "Bool"}, {"q : Int ~ Bool;", "(sym q)", "Bool", "Int"}, {"q : Int ~ Bool;", "(sym (sym q))", "Int", "Bool"}, {"q : Int ~ Bool;", "#1", wrong, ""}, {"q : Int ~ Bool; qq : Bool ~ Unit;", "qq", "Bool", "Unit"}, {"q : Int ~ Bool; qq : Bool ~ Unit;", "q", "Int", "Bool"},
		{"q : Int ~ Bool; qq : Bool ~ Unit;", "(trans q qq)", "Int", "Unit"}, {"q : Int ~ Bool; qq : Bool ~ Unit;", "(trans qq q)", wrong, ""}, {"q : Int ~ Bool; qq : Bool ~ Unit;", "(trans (sym qq) (sym q))", "Unit", "Int"}, {"q : Int ~ Bool;", "(trans q q)", wrong, ""}, {"q : Int ~ Bool;", "(trans q {Bool})", "Int", "Bool"},
		{"q : Int ~ Bool;", "(app {List} q)", "List Int", "List Bool"}, {"q : List ~ IO;", "(app q {Int})", "List Int", "IO Int"}, {"q : List ~ IO; qq : Int ~ Bool;", "(app q qq)", "List Int", "IO Bool"}, {"q : Int ~ Bool;", "(app q q)", wrong, ""}, {"q : Int ~ Bool;", "(app {Plus} {'Z})", wrong, ""}, {"n : Nat; q : n ~ 'Z;", "(app (app {Vec} {Int}) q)", "Vec Int n", "Vec Int 'Z"}, {"q : 'Z ~ 'S 'Z;", "(app (app {Vec} q) {'Z})", wrong, ""}, {"q : Int ~ Bool;", "(app {Eq} q)", "Eq Int", "Eq Bool"}, {"q : Int ~ Bool;", "(app (app {Conv} q) {Int})", "Conv Int Int", "Conv Bool Int"}, {"q : Nat ~ Type;", "(app {Proxy} q)", wrong, ""}, {"q : Proxy Nat 'Z ~ Proxy Type Int;", "q", "Proxy Nat 'Z", "Proxy Type Int"},
		{"", "(all a {Type} {a -> a})", "forall a. a -> a", "forall a. a -> a"}, {"q : Int ~ Bool;", "(all a {Type} q)", "forall a. Int", "forall a. Bool"}, {"a : Type; q : a ~ List a;", "(all b {Nat} q)", "forall (b : Nat). a", "forall (b : Nat). List a"}, {"q : List ~ IO;", "(all a {Type} q)", wrong, ""}, {"", "(all a {'Z} {Int})", wrong, ""}, {"", "(all a {List} {Int})", wrong, ""}, {"q : 'Z ~ 'Z;", "(all a {Type} q)", wrong, ""}, {"q : Eq Int ~ Eq Bool;", "(all a {Type} q)", wrong, ""},
		{"q : Int ~ Bool;", "(imp (app {Eq} q) q)", "Eq Int => Int", "Eq Bool => Bool"}, {"q : Int ~ Bool;", "(imp q q)", wrong, ""}, {"q : Eq Int ~ Eq Bool;", "(imp q q)", wrong, ""}, {"q : Int ~ Bool;", "(imp {Int ~ Int} q)", "Int ~ Int => Int", "Int ~ Int => Bool"}, {"q : Eq Int ~ Empty;", "(imp q {Int})", "Eq Int => Int", "Empty => Int"}, {"q : List ~ IO;", "(imp {Empty} q)", wrong, ""},
		{"", "(axiom Plus 0 {'Z} {'S 'Z})", "Plus 'Z ('S 'Z)", "'S 'Z"}, {"n : Nat;", "(axiom Plus 1 {'S 'Z} {n})", "Plus ('S 'Z) n", "'S (Plus 'Z n)"}, {"", "(axiom Plus 1 {'Z} {'Z})", wrong, ""}, {"", "(axiom Plus 0 {'S 'Z} {'Z})", wrong, ""}, {"n : Nat;", "(axiom Plus 0 {n} {'Z})", wrong, ""}, {"", "(axiom Plus 0 {'Z})", wrong, ""}, {"", "(axiom Plus 2 {'Z} {'Z})", wrong, ""}, {"", "(axiom No 0 {'Z})", wrong, ""}, {"", "(axiom List 0 {Int})", wrong, ""}, {"", "(axiom Plus 0 {'Z} {Int})", wrong, ""}, {"", "(axiom Unit2 0)", "Unit2", "Unit"}, {"", "(axiom Elem 1 {Int})", "Elem Int", "Bool"}, {"a : Type;", "(axiom Elem 0 {List a})", "Elem (List a)", "a"}, {"", "(axiom Same 0 {Int} {Int})", "Same Int Int", "'True"}, {"", "(axiom Same 1 {Int} {Bool})", "Same Int Bool", "'False"}, {"", "(axiom Same 1 {Int} {Int})", wrong, ""}, {"a : Type;", "(axiom Same 1 {Int} {a})", wrong, ""}, {"", "(axiom Box 0 {'Z})", "Box 'Z", "List"}, {"", "(axiom Box 0 {'Z} {Int})", wrong, ""}, {"", "(axiom Plus 0 {'Z} {v0})", wrong, ""}, {"n : Nat;", "(axiom Plus 0 {'Z} {Plus n n})", "Plus 'Z (Plus n n)", "Plus n n"},
		{"q : List Int ~ List Bool;", "(right q)", "Int", "Bool"}, {"q : List Int ~ IO Bool;", "(left q)", "List", "IO"}, {"q : List Int ~ IO Bool;", "(right q)", "Int", "Bool"}, {"q : Int ~ List Int;", "(right q)", wrong, ""}, {"q : List Int ~ Int;", "(left q)", wrong, ""}, {"", "(left {Int})", wrong, ""}, {"n : Nat; m : Nat; q : 'S n ~ Plus n m;", "(right q)", wrong, ""}, {"n : Nat; q : 'S n ~ 'S 'Z;", "(right q)", "n", "'Z"}, {"q : Box 'Z Int ~ List Int;", "(right q)", "Int", "Int"}, {"q : Box 'Z Int ~ List Int;", "(left q)", "Box 'Z", "List"}, {"q : Box 'Z Int ~ List Int;", "(left (left q))", wrong, ""}, {"q : Elem Int ~ List Int;", "(right q)", wrong, ""}, {"q : Proxy Nat 'Z ~ Proxy Type Int;", "(left q)", wrong, ""}, {"q : Proxy Nat 'Z ~ Proxy Type Int;", "(right q)", wrong, ""}, {"q : Proxy Type Int ~ Proxy Type Bool;", "(right q)", "Int", "Bool"}, {"q : Proxy (Type -> Type) List ~ Proxy (Type -> Type) IO;", "(left q)", "Proxy (Type -> Type)", "Proxy (Type -> Type)"}, {"f : Nat -> Type; g : Type -> Type; q : f 'Z ~ g Int;", "(right q)", wrong, ""}, {"f : Nat -> Type; g : Type -> Type; q : f 'Z ~ g Int;", "(left q)", wrong, ""}, {"q : (Int -> Bool) ~ (Bool -> Int);", "(right (left q))", "Int", "Bool"}, {"", "(left {Int ~ Bool})", wrong, ""}, {"", "(right {Int ~ Bool})", wrong, ""}, {"q : Eq Int ~ Eq Bool;", "(right q)", "Int", "Bool"}, {"q : (forall a. a) ~ (forall a. a);", "(left q)", wrong, ""},
		{"k : Type; f : forall (b : Type). b -> Type; c : k; d : k; q : f k c ~ f k d;", "(right q)", "c", "d"},
		{"n : Nat; q : n ~ 'Z;", "(fam Plus q {n})", "Plus n n", "Plus 'Z n"}, {"n : Nat; q : n ~ 'Z;", "(fam Plus q)", wrong, ""}, {"n : Nat; q : n ~ 'Z;", "(fam Plus q q q)", wrong, ""}, {"q : Int ~ Bool;", "(fam Plus q q)", wrong, ""}, {"q : Int ~ Bool;", "(fam Elem q)", "Elem Int", "Elem Bool"}, {"q : Int ~ Bool;", "(fam List q)", wrong, ""}, {"q : Int ~ Bool;", "(fam No q)", wrong, ""}, {"", "(fam Unit2)", "Unit2", "Unit2"}, {"", "(fam Unit2 {Int})", wrong, ""}, {"n : Nat; q : n ~ 'Z;", "(fam Box q)", "Box n", "Box 'Z"}, {"n : Nat; q : n ~ 'Z;", "(app (fam Box q) {Int})", "Box n Int", "Box 'Z Int"}, {"n : Nat; q : n ~ 'Z;", "(fam Box q {Int})", wrong, ""}, {"q : Int ~ Bool;", "(fam Elem (fam Elem q))", "Elem (Elem Int)", "Elem (Elem Bool)"},
		// contexts that are not right
		{"a : 'Z;", "{Int}", wrong, ""}, {"q : Int ~ List;", "{Int}", wrong, ""}, {"a : Type; b : a; q : b ~ b;", "q", "b", "b"}, {"a : Nat; b : a;", "{Int}", wrong, ""},
	} {
		s := around(row[0])
		a, b, err := Coercion(e, s.kinds, s.pairs, s.co(row[1]))
		if row[2] == wrong {
			if err != api.ErrCore || a.Op != 0 || b.Op != 0 {
				t.Errorf("%s | %s: %s, %s (%d)", row[0], row[1], showType(a), showType(b), err)
			}
			continue
		}
		if err != api.OK || !types.Same(a, s.typ(row[2])) || !types.Same(b, s.typ(row[3])) {
			t.Errorf("%s | %s: %s, %s (%d)", row[0], row[1], showType(a), showType(b), err)
		}
	}
}
