package decl

import (
	"strings"
	"testing"

	"damask/api"
	"damask/family"
	"damask/types"
)

// TestEquations: the variables of an equation, with their kinds, are numbered as they are found.
func TestEquations(t *testing.T) {
	for source, want := range map[string]string{
		"family F : Type -> Type { };":                                                                                        "F/1 : Type -> Type",
		"family F : Type -> forall (k : Type). k -> Nat { };":                                                                 "F/3 : Type -> forall a. a -> Nat",
		"family F : Type { };":                                                                                                "F/0 : Type",
		"family F : Type { F = Int; F = Bool; };":                                                                             "F/0 : Type | [] [] = Int | [] [] = Bool",
		"family F : Type -> Type -> Type { F a = List; };":                                                                    "F/1 : Type -> Type -> Type | [Type] [free0] = List",
		"family F : Type -> Type -> Type { F = P; F = P; };":                                                                  "F/0 : Type -> Type -> Type | [] [] = P | [] [] = P",
		"family F : Type -> Nat -> Type { F b n = Vec b n; F (List c) 'Z = c; };":                                             "F/2 : Type -> Nat -> Type | [Type, Nat] [free1, free0] = Vec free1 free0 | [Type] [List free0, 'Z] = free0",
		"family F : Type -> Type -> Bool { F a a = 'True; F a b = 'False; };":                                                 "F/2 : Type -> Type -> Bool | [Type] [free0, free0] = 'True | [Type, Type] [free1, free0] = 'False",
		"family F : Type -> Type { F (P a (Vec b n)) = P b (Proxy Nat n); };":                                                 "F/1 : Type -> Type | [Type, Type, Nat] [P free2 (Vec free1 free0)] = P free1 (Proxy Nat free0)",
		"family F : forall (k : Type). k -> Type { F Type a = a; F Nat n = Vec Int n; F (Type -> Type) f = f Int; };":         "F/2 : forall a. a -> Type | [Type] [Type, free0] = free0 | [Nat] [Nat, free0] = Vec Int free0 | [Type -> Type] [Type -> Type, free0] = free0 Int",
		"family F : forall (k : Type). k { F Type = Int; F Nat = 'Z; F (Type -> Type) = List; };":                             "F/1 : forall a. a | [] [Type] = Int | [] [Nat] = 'Z | [] [Type -> Type] = List",
		"family F : Type -> forall (k : Type). k -> Type { F a Bool 'True = a; F a Nat n = Vec a n; };":                       "F/3 : Type -> forall a. a -> Type | [Type] [free0, Bool, 'True] = free0 | [Type, Nat] [free1, Nat, free0] = Vec free1 free0",
		"family F : Bool -> Type { F 'True = forall a. a -> a; F 'False = forall b. Eq b => F 'True; };":                      "F/1 : Bool -> Type | [] ['True] = forall a. a -> a | [] ['False] = forall a. Eq a => F 'True",
		"family F : List Type -> Nat { F ('Nil Type) = 'Z; F ('Cons Type a as) = 'S (F as); };":                               "F/1 : List Type -> Nat | [] ['Nil Type] = 'Z | [Type, List Type] ['Cons Type free1 free0] = 'S (F free0)",
		"family F : Constraint -> Constraint { F (Eq a) = Ord a; F c = c; };":                                                 "F/1 : Constraint -> Constraint | [Type] [Eq free0] = Ord free0 | [Constraint] [free0] = free0",
		"family F : Type -> Type { F (Proxy Nat n) = Vec Int n; F (Proxy Type a) = a; F (Proxy (Type -> Type) f) = f Int; };": "F/1 : Type -> Type | [Nat] [Proxy Nat free0] = Vec Int free0 | [Type] [Proxy Type free0] = free0 | [Type -> Type] [Proxy (Type -> Type) free0] = free0 Int",
	} {
		env, _ := built(t, base+source)
		compare(t, source, entries(env, "family")[1:], []string{want})
		if _, e := family.Plain(env, named("Int")); e != api.OK {
			t.Error("not formed:", source)
		}
	}
	compare(t, "families that need each other", added(t, "family F : Type -> Type { F a = List (G a a); }; family G : Type -> Type -> Type { G a b = F a; };"), []string{
		"family F/1 : Type -> Type | [Type] [free0] = List (G free0 free0)", "family G/2 : Type -> Type -> Type | [Type, Type] [free1, free0] = F free1",
	})
}

func TestEquationErrors(t *testing.T) {
	checkFailures(t, []failure{
		// the left side
		{"family F : Type -> Type { Int = Int; };", 0, api.ErrForm}, {"family F : Type -> Type { Plus 'Z = Int; };", 0, api.ErrForm}, {"family F : Type -> Type { List a = Int; };", 0, api.ErrForm}, {"family F : Type -> Type { a b = Int; };", 0, api.ErrForm},
		{"family F : Type -> Type { F a = a; F = List; };", 0, api.ErrForm}, {"family F : Type -> Type -> Type { F a = List; F a b = a; };", 0, api.ErrForm}, {"family F : Type -> Type { F a b = a; };", 0, api.ErrForm}, {"family F : Type { F a = Int; };", 0, api.ErrForm}, {"family F : forall (k : Type). k { F (Type -> Type) Int = Int; };", 0, api.ErrForm},
		{"family F : Type -> Type { F (forall a. a) = Int; };", 0, api.ErrForm}, {"family F : Type -> Type { F (Eq Int => Int) = Int; };", 0, api.ErrForm}, {"family F : Nat -> Type { F (Plus a b) = Int; };", 0, api.ErrForm}, {"family F : Type -> Type { F (List (F a)) = Int; };", 0, api.ErrForm}, {"family F : (Nat -> Nat) -> Type { F (Plus a) = Int; };", 0, api.ErrForm}, {"family F : Type -> Type { F G = Int; }; family G : Type { };", 0, api.ErrForm},
		{"family F : Type -> Type { F (f a) = Int; };", 0, api.ErrForm}, {"family F : Type -> (Type -> Type) -> Type { F a f = f a; F (f a) f = Int; };", 0, api.ErrForm}, {"family F : (Type -> Type) -> Type -> Type { F f (f a) = Int; };", 0, api.ErrForm},
		// kinds on the left side
		{"family F : forall (k : Type). k -> Type { F k a = Int; };", 0, api.ErrForm}, {"family F : forall (k : Type). k -> Type { F (List k) a = Int; };", 0, api.ErrForm}, {"family F : forall (k : Type). k -> Type { F k 'Z = Int; };", 0, api.ErrKind}, {"family F : Type -> Type { F (Proxy k a) = Int; };", 0, api.ErrForm}, {"family F : forall (k : Type). k -> k -> Type { F Nat n 'Z = Int; F Nat n n = Bool; };", 0, api.OK},
		{"family F : Type -> Type { F 'Z = Int; };", 0, api.ErrKind}, {"family F : Type -> Type { F List = Int; };", 0, api.ErrKind}, {"family F : Nat -> Type { F ('S Int) = Int; };", 0, api.ErrKind}, {"family F : Nat -> Type { F ('S 'Z 'Z) = Int; };", 0, api.ErrKind}, {"family F : Nat -> Type { F ('Z n) = Int; };", 0, api.ErrKind}, {"family F : Type -> Nat -> Type { F n n = Int; };", 0, api.ErrKind}, {"family F : Type -> Type { F (Vec n n) = Int; };", 0, api.ErrKind}, {"family F : Type -> Type { F (Int Int) = Int; };", 0, api.ErrKind}, {"family F : (Type -> Type) -> Type { F (P a b) = Int; };", 0, api.ErrKind},
		{"family F : Type -> Type { F (Vec Int 'VNil) = Int; };", 0, api.ErrName}, {"family F : Type -> Type { F 'VNil = Int; };", 0, api.ErrName}, {"family F : Constraint -> Type { F (Int ~ Bool) = Int; };", 0, api.ErrName},
		{"family F : List Type -> Nat { F ('Cons k a as) = 'Z; };", 0, api.ErrForm}, {"family F : List Type -> Nat { F ('Cons Nat 'Z as) = 'Z; };", 0, api.ErrKind}, {"family F : List Type -> Nat { F ('Cons Type Int) = 'Z; };", 0, api.ErrKind}, {"family F : List Type -> Nat { F ('Nil Type Int) = 'Z; };", 0, api.ErrKind}, {"family F : List Type -> Nat { F 'Nil = 'Z; };", 0, api.ErrKind},
		// promoted constructors exist wherever their types stand, and right sides need the kind of the left ones
		{"family F : Q -> Type { F 'Q = Int; }; data Q : Type { Q : Q; };", 0, api.OK}, {"family F : Type -> Type { F a = 'Z; };", 0, api.ErrKind}, {"family F : Type -> Nat { F a = a; };", 0, api.ErrKind}, {"family F : Type -> Type { F a = List; };", 0, api.ErrKind}, {"family F : Type -> Type { F a = 'VNil; };", 0, api.ErrName}, {"family F : Type -> Type { F a = Vec a (Plus 'Z); };", 0, api.ErrForm}, {"family F : Type -> Type { F a = Plus 'Z; };", 0, api.ErrForm}, {"family F : Type -> Type { F a = Vec Int a; };", 0, api.ErrKind},
		{"family F : forall (k : Type). k -> k { F Type a = Int; F Nat n = 'Z; };", 0, api.OK}, {"family F : forall (k : Type). k -> k { F Type a = Int; F Nat n = Int; };", 0, api.ErrKind}, {"family F : Type -> Type { F a = forall (b : a). Proxy a b; };", 0, api.OK}, {"family F : Type -> Type { F a = F; };", 0, api.ErrForm}, {"family F : forall (k : Type). k { F k = Int; };", 0, api.ErrKind}, {"family F : forall (k : Type). k { F k = F k; };", 0, api.OK},
		// one after the other: the head and the number, what stands in the arguments, their kinds, the right side; and the equations
		{"family F : Type -> Type -> Type { F 'Z (forall a. a) = 'Z; };", 0, api.ErrForm}, {"family F : Type -> Type -> Type { F 'Z (f a) = 'Z; };", 0, api.ErrKind}, {"family F : Type -> Type -> Type { F (f a) 'Z = 'Z; };", 0, api.ErrForm}, {"family F : Type -> Type { F 'Z = F; };", 0, api.ErrKind}, {"family F : Type -> Type { F a = 'Z; F = Int; };", 0, api.ErrKind}, {"family F : Type -> Type { F a = Int; F a b = 'Z; };", 0, api.ErrForm}, {"family F : Type -> Type { F a = 'Z; }; family G : Type { G a = Int; };", 0, api.ErrKind},
	})
}

// TestManyVariables: an equation can have more variables than a context may have kinds.
func TestManyVariables(t *testing.T) {
	p, left, right := "", "", ""
	for i := range 3 {
		name := string(rune('a' + i))
		l := "P " + name + "a " + name + "b"
		for j := range 15 {
			l = "P (" + l + ") (P " + name + string(rune('c'+j)) + " Int)"
		}
		left += " (" + l + ")"
	}
	right = "P aq (P ba (forall (k : Type). P cq k))"
	p = "family F : Type -> Type -> Type -> Type { F" + left + " = " + right + "; };"
	env, _ := built(t, base+p)
	a := env.Families[1].Eqs[0]
	if len(a.Vars) != 51 || show(a.Right) != "P free34 (P free33 (forall a. P free0 a))" {
		t.Error(len(a.Vars), show(a.Right))
	}
	checkFailures(t, []failure{{strings.Replace(p, "= P aq", "= P 'Z", 1), 0, api.ErrKind}, {strings.Replace(p, "= P aq", "= P List", 1), 0, api.ErrKind}})
	args := []api.Type{named("Int"), named("Int"), named("Int")}
	if _, _, e := family.Step(env, "M.F", args); e != api.ErrNone {
		t.Error(e)
	}
	if n, _, e := family.Normal(env, applied(named("M.Plus"), applied(named("'M.S"), named("'M.Z")), variable(3))); e != api.OK || !types.Same(n, applied(named("'M.S"), variable(3))) {
		t.Error(show(n), e)
	}
}
