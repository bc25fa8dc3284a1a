package decl

import (
	"strings"
	"testing"

	"damask/api"
	"damask/kind"
)

// TestConstructors: what the variables of a con become, and which equations arise.
func TestConstructors(t *testing.T) {
	for source, want := range map[string]string{
		// plain ones
		"data T : Type { K : T; };":                                                                                                "K of T",
		"data T : Type { K : Int -> (T -> T) -> T; };":                                                                             "K of T args [Int, T -> T]",
		"data T : Type -> Type { K : a -> T a; };":                                                                                 "K of T univ [Type] args [free0]",
		"data T : Type -> Type -> Type { K : forall a b. b -> a -> T b a; };":                                                      "K of T univ [Type, Type] args [free1, free0]",
		"data T : Type -> Type { K : (forall b. b -> a) -> T a; };":                                                                "K of T univ [Type] args [forall a. a -> free0]",
		"data T : (Type -> Type) -> Type { K : forall (f : Type -> Type). f (T f) -> T f; };":                                      "K of T univ [Type -> Type] args [free0 (T free0)]",
		"data T : forall (k : Type). k -> Type { K : forall (k : Type) (a : k). Proxy k a -> T k a; };":                            "K of T univ [Type, free0] args [Proxy free1 free0]",
		"data T : forall (k : Type). (k -> Type) -> k -> Type { K : forall (k : Type) (a : k) (f : k -> Type). f a -> T k f a; };": "K of T univ [Type, free0 -> Type, free1] args [free1 free0]",
		"newtype T : Nat -> Type { K : forall (n : Nat). Vec Int n -> T n; };":                                                     "K of T univ [Nat] args [Vec Int free0]",
		// further variables
		"data T : Type { K : forall a. a -> (a -> Int) -> T; };":                                             "K of T exis [Type] args [free0, free0 -> Int]",
		"data T : Type -> Type { K : forall a b c. a -> b -> c -> T b; };":                                   "K of T univ [Type] exis [Type, Type] args [free1, free2, free0]",
		"data T : Type -> Type { K : forall (k : Type) (a : k) b (c : k). Proxy k a -> Proxy k c -> T b; };": "K of T univ [Type] exis [Type, free0, free1] args [Proxy free2 free1, Proxy free2 free0]",
		"data T : Type -> Type { K : forall (k : Type) (a : k). Proxy k a -> T k; };":                        "K of T univ [Type] exis [free0] args [Proxy free1 free0]",
		"data T : Type { K : forall a. T; };":                                                                "K of T exis [Type]",
		// equations of the results
		"data T : Type -> Type { K : T Int; };":                                                                  "K of T univ [Type] (free0 ~ Int)",
		"data T : Nat -> Type { K : forall (n : Nat). T n -> T ('S n); };":                                       "K of T univ [Nat] exis [Nat] (free1 ~ 'S free0) args [T free0]",
		"data T : Type -> Type -> Type { K : a -> T a a; };":                                                     "K of T univ [Type, Type] (free0 ~ free1) args [free1]",
		"data T : Type -> Type -> Type { K : forall a b. T (a -> b) a; };":                                       "K of T univ [Type, Type] exis [Type] (free2 ~ free1 -> free0)",
		"data T : Type -> Type -> Type { K : forall a. T a (List a); };":                                         "K of T univ [Type, Type] (free0 ~ List free1)",
		"data T : Type -> Type -> Type -> Type { K : forall a b. b -> T b b a; };":                               "K of T univ [Type, Type, Type] (free1 ~ free2) args [free2]",
		"data T : Nat -> Type { K : forall (n : Nat). T (Plus n n); };":                                          "K of T univ [Nat] exis [Nat] (free1 ~ Plus free0 free0)",
		"data T : Type -> Type { K : T (forall a. a); };":                                                        "K of T univ [Type] (free0 ~ forall a. a)",
		"data T : forall (k : Type). k -> Type { K : forall (k : Type). T Type k; };":                            "",
		"data T : forall (k : Type). Proxy Type k -> Type { K : forall (k : Type) (a : Proxy Type k). T k a; };": "K of T univ [Type, Proxy Type free0]",
		// what is given
		"data T : Type -> Type { K : forall a. Eq a => a -> T a; };":                                     "K of T univ [Type] given [Eq free0] args [free0]",
		"data T : Type -> Type { K : forall a b. a ~ List b => Eq b => Int ~ b => Ord a => a -> T a; };": "K of T univ [Type] exis [Type] (free1 ~ List free0) (Int ~ free0) given [Eq free0, Ord free1] args [free1]",
		"data T : Type -> Type { K : forall a. Eq a => a ~ Int => T (List a); };":                        "K of T univ [Type] exis [Type] (free1 ~ List free0) (free0 ~ Int) given [Eq free0]",
		"data T : Constraint -> Type { K : forall (c : Constraint). c => T c; };":                        "K of T univ [Constraint] given [free0]",
		"data T : Type { K : (Eq Int => Int) -> T; };":                                                   "K of T args [Eq Int => Int]",
		"data T : Type { K : Eq Int => (List ~ IO) => T; };":                                             "K of T (List ~ IO) given [Eq Int]",
	} {
		if want == "" {
			checkFailures(t, []failure{{source, 0, api.ErrForm}})
			continue
		}
		env, _ := built(t, base+source)
		got := entries(env, "con")
		compare(t, source, got[len(got)-1:], []string{want})
		// its type has the kind Type
		typ, e := ConType(env, "M.K")
		if e != api.OK || kind.Check(env, nil, nil, nil, typ, named("Type")) != api.OK {
			t.Error(source, show(typ), e)
		}
	}
}

func TestConstructorErrors(t *testing.T) {
	checkFailures(t, []failure{
		{"data T : Type { K : List; };", 0, api.ErrKind}, {"data T : Type -> Type { K : T; };", 0, api.ErrKind}, {"data T : Type { K : Vec Int Int -> T; };", 0, api.ErrKind}, {"data T : Type { K : forall (a : List). T; };", 0, api.ErrKind}, {"data T : Type { K : Int => T; };", 0, api.ErrKind},
		{"data T : Type { K : Vec Int 'VNil -> T; };", 0, api.ErrName}, {"data T : Type { K : Plus 'Z -> T; };", 0, api.ErrForm}, {"data T : Type { K : T T; };", 0, api.ErrKind},
		// promoted constructors exist from the next declaration on
		{"data T : Type { A : T; K : Proxy T 'A -> T; };", 0, api.ErrName}, {"data T : Type { K : Proxy T 'A -> T; A : T; };", 0, api.ErrName}, {"data U : Type { K : Proxy T 'A -> U; }; data T : Type { A : T; };", 0, api.ErrName}, {"data T : Type { A : T; }; data U : Type { K : Proxy T 'A -> U; };", 1, api.OK},
		{"data T : Type -> Type { A : T Int; }; data U : Type { K : Proxy (T Int) 'A -> U; };", 1, api.ErrName}, {"data T : Type { A : Eq Int => T; }; data U : Type { K : Proxy T 'A -> U; };", 1, api.ErrName}, {"data T : Type { A : forall a. T; }; data U : Type { K : Proxy T ('A Int) -> U; };", 1, api.OK},
		// the form
		{"data T : Type { K : Int; };", 0, api.ErrForm}, {"data T : Type { K : Int -> Nat; };", 0, api.ErrForm}, {"data T : Type -> Type { K : List a; };", 0, api.ErrForm}, {"data T : Type { K : forall a. a; };", 0, api.ErrForm}, {"data T : Type { K : Int -> forall a. a -> T; };", 0, api.ErrForm}, {"data T : Type { K : Eq Int => forall a. a -> T; };", 0, api.ErrForm}, {"data T : Type { K : Int -> Eq Int => T; };", 0, api.ErrForm},
		{"data T : Type { K : F Int; }; family F : Type -> Type { F a = T; };", 0, api.ErrForm}, {"data T : Type { K : Eq Int => T -> Int; };", 0, api.ErrForm},
		// the kinds of what stands for a variable, and of equations
		{"data T : forall (k : Type). k -> Type { K : forall (a : Nat). T Nat a; };", 0, api.ErrForm}, {"data T : forall (k : Type). k -> Type { K : T Nat 'Z; };", 0, api.ErrForm}, {"data T : forall (k : Type). k -> Type { K : forall (k : Type) (a : k). T k a; };", 0, api.OK}, {"data T : forall (k : Type). k -> k -> Type { K : forall (k : Type) (a : k). T k a a; };", 0, api.OK},
		{"data T : forall (k : Type). k -> Type { K : forall a. T Type a; };", 0, api.ErrForm}, {"data T : Type -> forall (k : Type). k -> Type { K : forall (k : Type) (a : k). T k k a; };", 0, api.ErrForm}, {"data T : forall (k : Type) (l : Type). k -> l -> Type { K : forall (k : Type) (a : k). T k k a a; };", 0, api.ErrForm}, {"data T : forall (k : Type). (k -> Type) -> Type { K : forall (k : Type) (f : k -> Type). T k f; };", 0, api.OK},
		{"data T : forall (k : Type). (k -> Type) -> Type { K : T Type List; };", 0, api.ErrForm}, {"data T : forall (k : Type) (l : Type). k -> Type { K : forall (l : Type) (a : l). T l Int a; };", 0, api.OK},
		// new types
		{"newtype T : Type { };", 0, api.ErrForm}, {"newtype T : Type { K : Int -> T; L : Int -> T; };", 0, api.ErrForm}, {"newtype T : Type { K : T; };", 0, api.ErrForm}, {"newtype T : Type { K : Int -> Int -> T; };", 0, api.ErrForm}, {"newtype T : Type { K : forall a. a -> T; };", 0, api.ErrForm}, {"newtype T : Type -> Type { K : Int -> T Int; };", 0, api.ErrForm}, {"newtype T : Type { K : Eq Int => Int -> T; };", 0, api.ErrForm}, {"newtype T : Type -> Type { K : { k : a } -> T a; };", 0, api.OK},
		{"newtype T : Type { K : Int -> T; L : { l : Int, l : Int } -> T; };", 0, api.ErrField}, {"newtype T : Type { K : Int -> T; L : Int; };", 0, api.ErrForm}, {"newtype T : Type { K : Int -> T; L : List; };", 0, api.ErrKind},
		// fields
		{"data T : Type { K : { a : Int, b : Bool } -> T; L : { b : Bool, c : Nat } -> T; };", 0, api.OK}, {"data T : Type { K : { a : Int } -> Int -> T; };", 0, api.ErrField}, {"data T : Type { K : { a : Int, a : Int } -> T; };", 0, api.ErrField}, {"data T : Type { K : { a : Int } -> T; L : { a : Bool } -> T; };", 0, api.ErrField}, {"data T : Type { K : forall a. { a : a } -> T; };", 0, api.ErrField}, {"data T : Type -> Type { K : { a : Int } -> T Int; };", 0, api.ErrField}, {"data T : Type { K : { a : Int } -> Eq Int => T; };", 0, api.ErrForm},
		{"data T : Type -> Type -> Type { K : forall a b. { x : a } -> T a b; L : forall b a. { x : b } -> T b a; };", 0, api.OK}, {"data T : Type -> Type -> Type { K : forall a b. { x : a } -> T a b; L : forall b a. { x : a } -> T b a; };", 0, api.ErrField}, {"data T : Type { K : { a : Int } -> T; L : { b : Int, a : Int } -> T; M : { a : Nat } -> T; };", 0, api.ErrField},
		// within a con kind, form, fields; and con by con
		{"data T : Type { K : { a : Int, a : Int } -> List; };", 0, api.ErrKind}, {"data T : Type { K : { a : Int, a : Int } -> Int; };", 0, api.ErrForm}, {"data T : Type { K : { a : Int, a : Int } -> T; L : List; };", 0, api.ErrField}, {"data T : Type { K : Int; L : List; };", 0, api.ErrForm}, {"data T : Type { K : T; }; data U : Type { L : Int; };", 1, api.ErrForm},
	})
}

// TestLargeConstructors: the type of a constructor, as ConType returns it, must be proper, which comes behind the form and before the fields.
func TestLargeConstructors(t *testing.T) {
	names := func(n int) string { return strings.Repeat("a ", n) }
	vars := func(n int) string {
		s := ""
		for i := range n {
			s += " a" + string(rune('a'+i))
		}
		return s
	}
	k := strings.Repeat("Type -> ", 12) + "Type"
	checkFailures(t, []failure{
		{"data T : Type { K : forall " + names(37) + ". T; };", 0, api.OK}, {"data T : Type { K : forall " + names(39) + ". T; };", 0, api.OK},
		{"data T : Type { K : " + strings.Repeat("Int -> ", 38) + "T; };", 0, api.OK}, {"data T : Type { K : " + strings.Repeat("a -> ", 20) + strings.Repeat("Int -> ", 17) + "T; };", 0, api.OK}, {"data T : Type { K : " + strings.Repeat("a -> ", 20) + strings.Repeat("Int -> ", 18) + "T; };", 0, api.ErrFull},
		{"data T : Type { K : " + strings.Join(strings.Fields(vars(20)), " -> ") + " -> T; };", 0, api.ErrFull},
		// twelve equations make the type deeper than it was written
		{"data T : " + k + " { K : " + strings.Repeat("Int -> ", 26) + "T" + strings.Repeat(" Int", 12) + "; };", 0, api.ErrFull}, {"data T : " + k + " { K : { a : Int } -> " + strings.Repeat("Int -> ", 25) + "T" + strings.Repeat(" Int", 12) + "; };", 0, api.ErrFull},
		{"data T : " + k + " { K : { a : Int } -> T" + strings.Repeat(" Int", 12) + "; };", 0, api.ErrField}, {"data T : " + k + " { K : T" + strings.Repeat(" Int", 12) + "; };", 0, api.OK},
	})
}
