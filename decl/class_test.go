package decl

import (
	"slices"
	"strings"
	"testing"

	"damask/api"
	"damask/types"
)

func TestClasses(t *testing.T) {
	for source, want := range map[string]string{
		"class C { };":            "C []",
		"class C (a) { m : a; };": "C [Type] {m : free0}",
		"class C { m : forall a. a; n : b -> c -> b; };":                          "C [] {m : forall a. a} {n : forall a b. a -> b -> a}",
		"class C (f : Type -> Type) (n : Nat) { m : Vec (f a) n -> f Int; };":     "C [Type -> Type, Nat] {m : forall a. Vec (free1 a) free0 -> free1 Int}",
		"class C (a) { m : forall a. a -> b -> a; };":                             "C [Type] {m : forall a b. b -> a -> b}",
		"class Eq a => Ord b => Eq (List b) => Eq a => C (a) (b) { };":            "C [Type, Type] supers [Eq free1, Ord free0, Eq (List free0), Eq free1]",
		"class D (P a) b => C (a) (b) { }; class D (f : Type -> Type) (b) { };":   "C [Type, Type] supers [D (P free1) free0]",
		"class C (a) (b) (c) (d) | a -> b c, c b -> d, d -> a { };":               "C [Type, Type, Type, Type] 0 -> 1 2 2 1 -> 3 3 -> 0",
		"class E (Plus a b) => C (a : Nat) (b : Nat) { }; class E (n : Nat) { };": "C [Nat, Nat] supers [E (Plus free1 free0)]",
		"class D Int => C { }; class D (a) { };":                                  "C [] supers [D Int]",
	} {
		env, _ := built(t, base+source)
		compare(t, source, entries(env, "class")[3:4], []string{want})
	}
}

func TestClassErrors(t *testing.T) {
	checkFailures(t, []failure{
		// the variables
		{"class C (a) (a) { };", 0, api.ErrTwice}, {"class C (a : Nat) (b) (a) { };", 0, api.ErrTwice},
		// the superclasses
		{"class List a => C (a) { };", 0, api.ErrForm}, {"class a => C (a : Constraint) { };", 0, api.ErrForm}, {"class (Int ~ a) => C (a) { };", 0, api.ErrForm}, {"class f a => C (f : Type -> Constraint) (a) { };", 0, api.ErrForm}, {"class Plus 'Z 'Z => C { };", 0, api.ErrForm}, {"class (Eq a => Eq a) => C (a) { };", 0, api.ErrForm}, {"class (forall b. Eq b) => C (a) { };", 0, api.ErrForm}, {"class 'Z => C { };", 0, api.ErrForm},
		{"class Eq => C (a) { };", 0, api.ErrKind}, {"class Eq a a => C (a) { };", 0, api.ErrKind}, {"class Collect a => C (a) { };", 0, api.ErrKind}, {"class Eq a => C (a : Nat) { };", 0, api.ErrKind}, {"class Eq List => C { };", 0, api.ErrKind}, {"class Eq 'VNil => C { };", 0, api.ErrName}, {"class Eq (Vec Int (Plus 'Z)) => C { };", 0, api.ErrForm}, {"class Eq 'VNil Int => C { };", 0, api.ErrKind},
		// the methods
		{"class C (a) { m : List; };", 0, api.ErrKind}, {"class C (a) { m : a Int; };", 0, api.ErrKind}, {"class C (f : Type -> Type) { m : f; };", 0, api.ErrKind}, {"class C (a) { m : Vec a 'VNil; };", 0, api.ErrName}, {"class C (a : Nat) { m : a -> Int; };", 0, api.ErrKind}, {"class C (a) { m : Eq a; };", 0, api.ErrKind}, {"class C (a) { m : Eq a => a; };", 0, api.OK}, {"class C (a) { m : " + strings.Repeat("Int -> ", 38) + "b; };", 0, api.ErrFull},
		// dependencies
		{"class C (a) (b) | a -> c { };", 0, api.ErrName}, {"class C (a) (b) | c -> a { };", 0, api.ErrName}, {"class C (a) (b) | a -> a { };", 0, api.ErrTwice}, {"class C (a) (b) | a a -> b { };", 0, api.ErrTwice}, {"class C (a) (b) | a -> b b { };", 0, api.ErrTwice}, {"class C (a) (b) | a -> b, a -> b, b -> a { };", 0, api.OK}, {"class C (a) (b) | a a -> c { };", 0, api.ErrName}, {"class C (a) (b) | a -> a, a -> c { };", 0, api.ErrTwice},
		// rings
		{"class C a => C (a) { };", 0, api.ErrRing}, {"class D a => C (a) { }; class C a => D (a) { };", 0, api.ErrRing}, {"class A a => C (a) { }; class B a => A (a) { }; class A a => B (a) { };", 1, api.ErrRing}, {"class A a => Eq a => C (a) { }; class B (List a) => Ord a => A (a) { }; class Ord a => C a => B (a) { };", 0, api.ErrRing}, {"class A a => C (a) { }; class B a => A (a) { }; class Eq a => B (a) { };", 0, api.OK}, {"class A a => B a => C (a) { }; class B a => A (a) { }; class Eq a => B (a) { };", 0, api.OK},
		// in this order: variables, superclasses, methods, dependencies; class by class; then rings
		{"class List a => C (a) (a) { m : List; };", 0, api.ErrTwice}, {"class List a => C (a) | a -> a { m : List; };", 0, api.ErrForm}, {"class Eq a => List => C (a) { };", 0, api.ErrForm}, {"class C (a) | a -> a { m : List; };", 0, api.ErrKind}, {"class C a => C (a) { }; class D (a) | a -> b { };", 1, api.ErrName}, {"class D a => C (a) | a -> a { }; class List a => D (a) { };", 0, api.ErrTwice},
	})
}

func TestInstances(t *testing.T) {
	for source, want := range map[string]string{
		"instance Eq Int { same = eq; };":                                                              "Eq [Int]",
		"instance Eq (List a) { same x y = True; };":                                                   "Eq vars [Type] [List free0]",
		"instance forall a b. Eq b => Ord a => Eq (P a b) { same x y = True; };":                       "Eq vars [Type, Type] context [Eq free0, Ord free1] [P free1 free0]",
		"instance forall (n : Nat). Eq (Vec Int n) { same x y = True; };":                              "Eq vars [Nat] [Vec Int free0]",
		"instance forall (k : Type) (a : k). Eq (Proxy k a) { same x y = True; };":                     "Eq vars [Type, free0] [Proxy free1 free0]",
		"instance forall (f : Type -> Type). Eq (f Int) { same x y = True; };":                         "Eq vars [Type -> Type] [free0 Int]",
		"instance Eq (a -> b) { same x y = True; };":                                                   "Eq vars [Type, Type] [free1 -> free0]",
		"instance Collect (List a) a { insert = Cons; };":                                              "Collect vars [Type] [List free0, free0]",
		"class C { }; instance C { };":                                                                 "C []",
		"class C (n : Nat) { }; instance C 'Z { };":                                                    "C ['Z]",
		"class C (n : Nat) { }; instance forall (n : Nat). C n => C ('S n) { };":                       "C vars [Nat] context [C free0] ['S free0]",
		"class C (f : Type -> Type) { }; instance C IO { };":                                           "C [IO]",
		"class C (c : Constraint) { }; instance C (Eq Int) { };":                                       "C [Eq Int]",
		"class C (a) { }; class E (n : Nat) { }; instance forall (n : Nat). E n => C (Vec Int n) { };": "C vars [Nat] context [E free0] [Vec Int free0]",
	} {
		env, p := built(t, base+source)
		compare(t, source, entries(env, "instance"), []string{want})
		if n := len(p.Decls); n != len(resolve(t, base+source).Decls) {
			t.Error("more declarations:", n)
		}
	}
}

func TestInstanceErrors(t *testing.T) {
	rest := " { same x y = True; };"
	deep := strings.Repeat("List (", 37) + "a" + strings.Repeat(")", 37)
	checkFailures(t, []failure{
		// the form
		{"instance List Int { };", 0, api.ErrForm}, {"instance Eq { };", 0, api.ErrForm}, {"instance Eq Int Int" + rest, 0, api.ErrForm}, {"instance Collect Int { };", 0, api.ErrForm}, {"instance Int { };", 0, api.ErrForm}, {"instance a { };", 0, api.ErrForm}, {"instance Eq Int => forall a. Eq (List a)" + rest, 0, api.ErrForm}, {"instance Int ~ Bool { };", 0, api.ErrForm}, {"instance Int -> Eq Int { };", 0, api.ErrForm}, {"instance Plus 'Z 'Z { };", 0, api.ErrForm}, {"instance (Eq Int => Eq Bool)" + rest, 0, api.ErrForm},
		// the kinds
		{"instance Eq List" + rest, 0, api.ErrKind}, {"instance Eq 'Z" + rest, 0, api.ErrKind}, {"instance forall (a : List). Eq Int" + rest, 0, api.ErrKind}, {"instance forall a. List a => Eq (List a)" + rest, 0, api.ErrKind}, {"instance forall (f : Type -> Type). Eq f => Eq (f Int)" + rest, 0, api.ErrKind}, {"instance Eq (Vec Int 'VNil)" + rest, 0, api.ErrName}, {"instance Eq => Eq Int" + rest, 0, api.ErrKind}, {"instance forall (a : Plus 'Z). Eq Int" + rest, 0, api.ErrForm}, {"instance Eq (Vec Int Int)" + rest, 0, api.ErrKind}, {"instance Eq (Vec Int (Plus 'Z))" + rest, 0, api.ErrForm},
		// the arguments
		{"instance Eq (forall a. a)" + rest, 0, api.ErrForm}, {"instance Eq (List (Eq Int => Int))" + rest, 0, api.ErrForm}, {"instance forall (n : Nat). Eq (Vec Int (Plus n n))" + rest, 0, api.ErrForm}, {"family F : Type { }; instance Eq F" + rest, 1, api.ErrForm}, {"family F : Type -> Type { F = List; }; instance Eq (F Int)" + rest, 1, api.ErrForm}, {"family F : Type -> Type -> Type { F a = List; }; instance Eq (F Int Int)" + rest, 1, api.ErrForm},
		// the contexts
		{"instance forall a. a ~ Int => Eq (List a)" + rest, 0, api.ErrForm}, {"instance forall (c : Constraint). c => Eq (Proxy Constraint c)" + rest, 0, api.ErrForm}, {"instance forall a. Eq a => Eq a" + rest, 0, api.ErrForm}, {"instance forall a. Eq (List a) => Eq (List a)" + rest, 0, api.ErrForm}, {"instance forall a. Ord a => Eq (List a)" + rest, 0, api.OK}, {"instance forall a. Collect a a => Eq (List a)" + rest, 0, api.ErrForm}, {"instance forall a. Collect a a => Eq (P a a)" + rest, 0, api.OK}, {"instance forall a. Eq (P a a) => Eq (List (List (List a)))" + rest, 0, api.ErrForm}, {"instance forall a. Eq (P a Int) => Eq (List (List (List a)))" + rest, 0, api.OK}, {"instance forall a. Eq (P a Int) => Eq (List (List a))" + rest, 0, api.ErrForm},
		{"instance forall a. Eq (forall b. b) => Eq (List (List (List a)))" + rest, 0, api.ErrForm}, {"instance forall (n : Nat). Eq (Vec Int (Plus n 'Z)) => Eq (List (List (List (List (Vec Int n)))))" + rest, 0, api.ErrForm}, {"instance forall a. Eq Int => Eq (List a)" + rest, 0, api.OK}, {"class C { }; instance C => Eq Int" + rest, 1, api.OK}, {"class C { }; instance C => C { };", 1, api.ErrForm}, {"class C { }; instance Eq Int => C { };", 1, api.ErrForm}, {"instance forall a. Eq a => Eq Bool => Collect (List a) a { insert = Cons; };", 0, api.OK},
		// the variables
		{"instance forall a b. Eq (List a)" + rest, 0, api.ErrForm}, {"instance forall (k : Type) (a : k). Eq (Proxy Nat 'Z)" + rest, 0, api.ErrForm}, {"class C (a : Nat -> Type) { }; instance forall a (n : Nat). C (Vec a) { };", 1, api.ErrForm}, {"instance forall a. Eq Int" + rest, 0, api.ErrForm}, {"class C { }; instance forall a. C { };", 1, api.ErrForm},
		// dependencies
		{"instance Collect (List a) b { insert x y = y; };", 0, api.ErrForm}, {"instance Collect (P a b) b { insert x y = y; };", 0, api.OK}, {"instance Collect a Int { insert x y = y; };", 0, api.OK}, {"instance Collect Int a { insert x y = y; };", 0, api.ErrForm}, {"class C (a) (b) (c) | a b -> c { }; instance C a b (P a b) { };", 1, api.OK}, {"class C (a) (b) (c) | a b -> c { }; instance C a (List b) (P a c) { };", 1, api.ErrForm}, {"class C (a) (b) | a -> b, b -> a { }; instance C (List a) a { }; instance C (P a b) (List a) { };", 2, api.ErrForm},
		// methods
		{"instance Eq Int { below = eq; };", 0, api.ErrName}, {"instance Eq Int { };", 0, api.ErrField}, {"instance Eq Int { same = eq; below = eq; };", 0, api.ErrName}, {"instance Eq Int { add = eq; };", 0, api.ErrName}, {"class C (a) { m : a; n : a; }; instance C Int { n = 1; };", 1, api.ErrField}, {"class C (a) { m : a; n : a; }; instance C Int { n = 1; m = 2; };", 1, api.OK}, {"class C (a) { m : a; n : a; }; instance C Int { n = 1; same = 2; };", 1, api.ErrName},
		// too large
		{"instance Eq (" + deep + ")" + rest, 0, api.OK}, {"instance Eq (List (" + deep + "))" + rest, 0, api.ErrFull}, {"instance List (List (" + deep + "))" + rest, 0, api.ErrFull},
		// one after the other: the size, the form, the kind, the arguments, the contexts, the variables, the dependencies, what is apart, the methods
		{"instance Eq => List { };", 0, api.ErrForm}, {"instance List a => Eq (forall b. b) { };", 0, api.ErrKind}, {"instance Eq Int { same = eq; }; instance forall a. Eq Int { };", 1, api.ErrForm}, {"instance Eq Int { same = eq; }; instance Eq Int { };", 1, api.ErrApart}, {"instance Eq Int { }; instance Eq Int { same = eq; };", 0, api.ErrField}, {"instance Collect (List a) a { insert = Cons; }; instance Collect (List a) b { insert = Cons; };", 1, api.ErrForm},
		{"data D : Type deriving (Ord) { }; instance Eq Int { };", 1, api.ErrField}, {"data D : Type deriving (Collect) { }; instance Eq Int { };", 1, api.ErrField}, {"instance Eq Int { }; class C (a) | a -> a { };", 1, api.ErrTwice}, {"f : List; f = f; instance Eq Int { };", 2, api.ErrField},
	})
}

func TestApart(t *testing.T) {
	two := "class C (a) (b) { }; class D (a) (b) (c) | a -> b, b -> a { }; class F (f : Type -> Type) { }; class N { }; class E (a) (b) (c) | a -> b { }; "
	instances := func(heads ...string) string {
		return two + "instance " + strings.Join(heads, " { }; instance ") + " { };"
	}
	for want, rows := range map[api.Errno][][]string{
		api.ErrApart: {
			{"C Int Int", "C Int Int"}, {"C a b", "C Int Bool"}, {"C a a", "C Int b"}, {"C Int b", "C a a"}, {"C (List a) b", "C b (List a)"}, {"C (P a b) (P b c)", "C (P x x) (P y Int)"}, {"F List", "forall (f : Type -> Type). F f"}, {"F (P a)", "F (P Int)"}, {"N", "N"}, {"C a Int", "C Bool b"},
			{"C (P a (P a b)) b", "C (P (List c) d) Int"}, {"C (a -> b) a", "C (P x y) z", "C (x -> x) Int"}, {"D Int Int Int", "D Int Bool Bool"}, {"D Int Bool Bool", "D Bool Bool Int"}, {"D (List a) a Int", "D (List Int) Int Bool", "D (List Bool) Int Unit"},
			{"D (List a) (List a) Int", "D (List a) (IO a) Bool"}, {"D (P a b) (P b a) Int", "D (P a b) (P a b) Bool"}, {"D (P a Int) (P a Bool) Int", "D (P Int b) (P b Bool) Bool"}, {"D (P a Int) (P a Bool) Int", "D (P Int Int) (P Unit Bool) Unit"}, {"C (P a b) (P b a)", "C (P x (List x)) y"}, {"D (P a (List Int)) (IO a) Int", "D (P b (List b)) (IO b) Bool"},
		},
		api.OK: {
			{"C Int Int", "C Int Bool", "C Bool Int", "C (List a) b"}, {"C a a", "C Int Bool"}, {"C a a", "C Int (List b)"}, {"C (List a) a", "C b (List b)"}, {"C a (List a)", "C b b"}, {"C (P a (List a)) b", "C (P b b) c"}, {"C (List a) a", "C (List (List b)) b"}, {"F List", "F IO", "F (P Int)", "F (P (List a))"}, {"C (P a a) b", "C (P Int Bool) b"}, {"C (a -> b) a", "C (P x y) z"},
			{"D Int Int Int", "D Bool Bool Int", "D (List a) (List a) b"}, {"D Int Bool Int", "D Int Bool Bool"}, {"D (List a) (List a) Int", "D (List Int) (List Int) Bool"}, {"D (P a Int) (P a Bool) Int", "D (P Int Int) (P Int Bool) Bool"}, {"D (P a (List a)) (P a (List a)) Int", "D (P b b) (P b (IO b)) Int"}, {"E (P a (List Int)) (IO a) Int", "E (P b (List b)) (IO b) Bool"},
		},
	} {
		for _, heads := range rows {
			checkFailures(t, []failure{{instances(heads...), 4 + len(heads), want}})
		}
	}
}

// TestSharing: heads whose terms would be without measure, if they were written out, are soon told apart.
func TestSharing(t *testing.T) {
	const n = 15
	class := "class Big"
	for i := range n {
		class += " (a" + string(rune('a'+i)) + ")"
	}
	class += " (to) (further) | aa ab ac ad ae af ag ah ai aj ak al am an ao -> to { }; "
	// twice is eight times a variable
	twice := func(v string) string {
		for range 3 {
			v = "(P " + v + " " + v + ")"
		}
		return v
	}
	// of two heads each has variables where the other one has terms of eight variables
	head := func(odd int, to, further string) string {
		s := "instance Big"
		for i := range n {
			switch {
			case i%2 == odd:
				s += " v" + string(rune('a'+i/2))
			case i == 0:
				s += " Int"
			default:
				s += " " + twice("v"+string(rune('a'+(i-1)/2)))
			}
		}
		return s + " " + to + " " + further + " { }; "
	}
	checkFailures(t, []failure{
		{class + head(0, "vh", "Int") + head(1, "vg", "Int"), 2, api.ErrApart},
		{class + head(0, "vh", "Int") + head(1, twice("vg"), "Int"), 2, api.ErrApart},
		{class + head(0, "vh", "Int") + head(1, twice("vg"), "Bool"), 2, api.OK},
		{class + head(0, twice(twice("vg")), "Int") + head(1, twice("vg"), "Bool"), 2, api.OK},
		{class + head(0, twice(twice("vg")), "Int") + head(1, twice("vf"), "Bool"), 2, api.ErrApart},
		{class + head(0, twice(twice("vg")), "Int") + head(1, "vg", "Bool"), 2, api.ErrApart},
	})
}

func TestInstancesOf(t *testing.T) {
	env, _ := built(t, base+`
		class Two (a) (b) { }; class None { }; class Of (f : Type -> Type) { }; class Num (n : Nat) { };
		family Stuck : Type { }; family Id : Type -> Type { Id a = a; };
		instance Two a a { }; instance Two Int Bool { }; instance Two (List a) (P b a) { }; instance None { }; instance Of List { }; instance Of (P a) { }; instance Two (List a) Int { };
		instance forall (n : Nat). Num ('S n) { }; instance Num 'Z { }; instance Two Unit (List b) { };
	`)
	for _, row := range []struct {
		class string
		args  []string
		want  []int
		e     api.Errno
	}{
		{"M.Two", []string{"Int", "Int"}, []int{0}, api.OK}, {"M.Two", []string{"Int", "Bool"}, []int{1}, api.OK}, {"M.Two", []string{"m0", "m0"}, []int{0}, api.OK}, {"M.Two", []string{"m0", "m1"}, nil, api.OK}, {"M.Two", []string{"v0", "v0"}, []int{0}, api.OK}, {"M.Two", []string{"forall a. a", "forall b. b"}, []int{0}, api.OK}, {"M.Two", []string{"forall a. a", "forall b. Int"}, nil, api.OK},
		{"M.Two", []string{"List r0", "P Int r0"}, []int{2}, api.OK}, {"M.Two", []string{"List r0", "P r0 Int"}, nil, api.OK}, {"M.Two", []string{"List Stuck", "P Int Stuck"}, []int{2}, api.OK}, {"M.Two", []string{"Stuck", "Stuck"}, []int{0}, api.OK}, {"M.Two", []string{"Stuck", "Int"}, nil, api.OK}, {"M.Two", []string{"Id Int", "Int"}, nil, api.OK}, {"M.Two", []string{"List (Id r0)", "P (Id Int) (Id r0)"}, []int{2}, api.OK}, {"M.Two", []string{"List (Id r0)", "Int"}, []int{6}, api.OK}, {"M.Two", []string{"Unit", "List Stuck"}, []int{9}, api.OK}, {"M.Two", []string{"Unit", "m0 Int"}, nil, api.OK},
		{"M.None", nil, []int{3}, api.OK}, {"M.Of", []string{"P (Int -> Int)"}, []int{5}, api.OK}, {"M.Of", []string{"Id"}, nil, api.OK}, {"M.Of", []string{"List"}, []int{4}, api.OK}, {"M.Num", []string{"'Z"}, []int{8}, api.OK}, {"M.Num", []string{"'S m0"}, []int{7}, api.OK}, {"M.Num", []string{"Plus 'S 'Z"}, nil, api.OK}, {"M.Eq", []string{"Int"}, nil, api.OK},
		{"M.Two", []string{"Int"}, nil, api.ErrForm}, {"M.Two", []string{"Int", "Int", "Int"}, nil, api.ErrForm}, {"M.None", []string{"Int"}, nil, api.ErrForm}, {"M.Missing", nil, nil, api.ErrNone}, {"Two", []string{"Int", "Int"}, nil, api.ErrNone}, {"M.List", []string{"Int"}, nil, api.ErrNone}, {"", nil, nil, api.ErrNone},
	} {
		var args []api.Type
		for _, a := range row.args {
			args = append(args, full(a))
		}
		got, e := Instances(env, row.class, args)
		if e != row.e || !slices.Equal(got, row.want) {
			t.Error(row.class, row.args, got, e)
		}
	}
	for _, args := range [][]api.Type{{{}}, {named("Int"), {Op: api.YName, S: "a"}}, {named(""), named("Int")}, slices.Repeat([]api.Type{named("Int")}, 601)} {
		for _, class := range []string{"M.Two", "M.Missing"} {
			if got, e := Instances(env, class, args); e != api.ErrArg || len(got) > 0 {
				t.Error(class, len(args), got, e)
			}
		}
	}
	if _, e := Instances(env, "M.Two", slices.Repeat([]api.Type{named("Int")}, 600)); e != api.ErrForm {
		t.Error(e)
	}
}

func TestSupers(t *testing.T) {
	env, _ := built(t, base+`
		class A (a) { }; class A a => B (a) { }; class A a => A (List a) => C (a) { }; class C a => B a => D (a) { }; class D (P a b) => Collect a b => Ord b => E (a) (b) { }; class E Int Bool => N { };
		class A a => A a => A (List a) => A (List Int) => T (a) { };
	`)
	for text, want := range map[string]string{
		"A Int": "", "Eq r0": "", "Ord r0": "Eq r0", "B m0": "A m0", "C Int": "A Int, A (List Int)", "D (List v0)": "C (List v0), B (List v0), A (List v0), A (List (List v0))", "T Int": "A Int, A (List Int)", "T m0": "A m0, A (List m0), A (List Int)",
		"E r0 r1":          "D (P r0 r1), Collect r0 r1, Ord r1, C (P r0 r1), B (P r0 r1), Eq r1, A (P r0 r1), A (List (P r0 r1))",
		"N":                "E Int Bool, D (P Int Bool), Collect Int Bool, Ord Bool, C (P Int Bool), B (P Int Bool), Eq Bool, A (P Int Bool), A (List (P Int Bool))",
		"Ord (Plus 'Z 'Z)": "Eq (Plus 'Z 'Z)",
	} {
		var wanted []api.Type
		for _, s := range strings.Split(want, ", ") {
			if s != "" {
				wanted = append(wanted, full(s))
			}
		}
		if got, e := Supers(env, full(text)); e != api.OK || !slices.EqualFunc(got, wanted, types.Same) {
			t.Error(text, showAll(got), e)
		}
	}
	for _, text := range []string{"Int", "Eq", "Eq Int Int", "E Int", "m0", "m0 Int", "Int ~ Int", "List Int", "forall a. Eq a", "Eq Int => Eq Int", "Plus 'Z 'Z", "Missing Int", "N Int"} {
		if got, e := Supers(env, full(text)); e != api.ErrForm || len(got) > 0 {
			t.Error(text, got, e)
		}
	}
	for _, x := range []api.Type{{}, named(""), applied(named("M.Eq"), api.Type{}), {Op: api.YName, S: "a"}} {
		if got, e := Supers(env, x); e != api.ErrArg || len(got) > 0 {
			t.Error(x, got, e)
		}
	}
}

// TestLargeSupers: superclasses that would be too large are left out, with theirs; there may be 400, and no more.
func TestLargeSupers(t *testing.T) {
	env, _ := built(t, base+"class A (a) { }; class A a => B (a) { }; class B (List a) => A (P a a) => A Int => C (a) { };")
	deep := named("Int")
	for range 38 {
		deep = applied(named("M.List"), deep)
	}
	if got, e := Supers(env, applied(named("M.C"), deep)); e != api.OK || showAll(got) != "[A Int]" {
		t.Error(showAll(got), e)
	}
	many := func(n int) string {
		s := "class A (a) (b) (c) (d) (e) (f) (g) (h) (i) { }; "
		var supers []string
		for i := range n {
			bit := func(k int) string { return []string{"Int", "Bool"}[i>>k&1] }
			supers = append(supers, "A "+bit(0)+" "+bit(1)+" "+bit(2)+" "+bit(3)+" "+bit(4)+" "+bit(5)+" "+bit(6)+" "+bit(7)+" a")
		}
		for i := 0; i < len(supers); i += 25 {
			s += "class " + strings.Join(supers[i:min(i+25, len(supers))], " => ") + " => C" + string(rune('a'+i/25)) + " (a) { }; "
		}
		return s
	}
	all := func(n int, further ...string) string {
		s := many(n)
		tops := further
		for i := 0; i < n; i += 25 {
			tops = append(tops, "C"+string(rune('a'+i/25))+" Int", "C"+string(rune('a'+i/25))+" Bool")
		}
		return s + "class " + strings.Join(tops, " => ") + " => All { };"
	}
	env, _ = built(t, base+all(192)) // 16 tops and 2 * 192 others
	if got, e := Supers(env, named("M.All")); e != api.OK || len(got) != 400 {
		t.Error(len(got), e)
	}
	env, _ = built(t, base+all(192, "Eq Int"))
	if got, e := Supers(env, named("M.All")); e != api.ErrFull || len(got) > 0 {
		t.Error(len(got), e)
	}
}
