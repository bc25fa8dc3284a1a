package infer

import (
	"testing"

	"damask/api"
)

// lastProblem is that of the last group of a source behind the world.
func lastProblem(t *testing.T, source string) (api.Problem, []api.Type) {
	t.Helper()
	p, env := built(t, world+source)
	groups, _ := Groups(p)
	q, types, e := Problem(p, env, nil, len(groups)-1)
	if e != api.OK {
		t.Errorf("%s: error %d", source, e)
	}
	return q, types
}

// TestProblem holds problems against what the chapter says, word by word: metavariables, rigid variables, implications with their parents, wants with theirs; and the types before anything is solved.
func TestProblem(t *testing.T) {
	for _, row := range []struct{ source, problem, types string }{
		{"x = 1;", "Type |  |  | -1: Int ~ m0", "m0"},
		{"x = \\y -> y;", "Type, Type, Type |  |  | -1: m0 ~ (m1 -> m2), -1: m1 ~ m2", "m0"},
		{"x y = y;", "Type, Type, Type |  |  | -1: m0 ~ (m1 -> m2), -1: m1 ~ m2", "m0"},
		{"x = (\\y z -> y) 1;", "Type, Type, Type |  |  | -1: Int ~ m1, -1: (m2 -> m1) ~ m0", "m0"},
		{"x : a -> a; x y = y;", " | Type @1 | -1: | 0: r0 ~ r0", "forall a. a -> a"},
		{"x : forall a. Eq a => a -> forall b. b -> Int; x y z = 1;", " | Type @1, Type @2 | -1: Eq r0; 0: | 1: Int ~ Int", "forall a. Eq a => a -> forall b. b -> Int"},
		{"x : forall a. Eq a => a -> forall b. b -> Int; x y = \\z -> 1;", " | Type @1, Type @2 | -1: Eq r0; 0: | 1: Int ~ Int", "forall a. Eq a => a -> forall b. b -> Int"},
		{"x : Int -> forall b. b -> Int; x = \\y z -> 1;", " | Type @1 | -1: | 0: Int ~ Int", "Int -> forall a. a -> Int"},
		{"x : Int -> forall b. b -> Int; x = \\y -> \\z -> 1;", " | Type @1 | -1: | 0: Int ~ Int", "Int -> forall a. a -> Int"},
		{"x = same;", "Type, Type |  |  | -1: Eq m1, -1: (m1 -> m1 -> Bool) ~ m0", "m0"},
		{"x = same 1;", "Type, Type |  |  | -1: Eq m1, -1: Int ~ m1, -1: (m1 -> Bool) ~ m0", "m0"},
		{"x = poly (\\y -> y);", "Type | Type @1 | -1: | 0: r0 ~ r0, -1: Int ~ m0", "m0"},
		{"x = rank 1 (same 1);", "Type, Type @1 | Type @1 | -1: Eq r0 | -1: Int ~ Int, 0: Eq m1, 0: Int ~ m1, 0: (m1 -> Bool) ~ (r0 -> Int), -1: Int ~ m0", "m0"},
		{"x = Cons @Int;", "Type |  |  | -1: (Int -> List Int -> List Int) ~ m0", "m0"},
		{"x = same @Int;", "Type |  |  | -1: Eq Int, -1: (Int -> Int -> Bool) ~ m0", "m0"},
		{"x = Proxy @Nat @'Z;", "Type |  |  | -1: Proxy Nat 'Z ~ m0", "m0"},
		{"x = Proxy @Type @Int;", "Type |  |  | -1: Proxy Type Int ~ m0", "m0"},
		{"x = Proxy;", "Type, Type, m1 |  |  | -1: Proxy m1 m2 ~ m0", "m0"},
		{"x = kinded;", "Type, Type, m1 -> Type, m1 |  |  | -1: (m2 m3 -> Int) ~ m0", "m0"},
		{"x = (1 : Int);", "Type |  |  | -1: Int ~ Int, -1: Int ~ m0", "m0"},
		{"x = (\\y -> (y : a) : forall a. a -> a) 1;", "Type, Type, Type | Type @1 | -1: | 0: m1 ~ r0, 0: r0 ~ (r0 -> r0), -1: Int ~ m1, -1: (m2 -> m2) ~ m0", "m0"},
		{"x = (Nil : List a);", "Type, Type @1, Type | Type @1 | -1: | 0: List m1 ~ List r0, -1: List m2 ~ m0", "m0"},
		{"x = if True then 1 else 2;", "Type |  |  | -1: Bool ~ Bool, -1: Int ~ m0, -1: Int ~ m0", "m0"},
		{"x = add (if True then 1 else 2) 3;", "Type |  |  | -1: Bool ~ Bool, -1: Int ~ Int, -1: Int ~ Int, -1: Int ~ Int, -1: Int ~ m0", "m0"},
		{"x y = case y of { True -> 1; _ -> 2; };", "Type, Type, Type |  |  | -1: m0 ~ (m1 -> m2), -1: m1 ~ Bool, -1: Int ~ m2, -1: Int ~ m2", "m0"},
		{"x y = case y of { 0 -> 1; z@1 -> z; !z -> z; ~z -> z; };", "Type, Type, Type |  |  | -1: m0 ~ (m1 -> m2), -1: m1 ~ Int, -1: Int ~ m2, -1: m1 ~ Int, -1: m1 ~ m2, -1: m1 ~ m2, -1: m1 ~ m2", "m0"},
		{"x y | same y 1 = 1 | True = z where { z = 2; };", "Type, Type, Type, Type, Type |  |  | -1: m0 ~ (m1 -> m2), -1: Int ~ m3, -1: Eq m4, -1: m1 ~ m4, -1: Int ~ m4, -1: Bool ~ Bool, -1: Int ~ m2, -1: Bool ~ Bool, -1: m3 ~ m2", "m0"},
		{"x = let { y : Int -> Int; y z = v; v = w; w = v; } in y;", "Type, Type, Type |  |  | -1: m2 ~ m1, -1: m1 ~ m2, -1: m1 ~ Int, -1: (Int -> Int) ~ m0", "m0"},
		{"x VNil = 1; x (VCons y z) = 2;", "Type, Type, Type, Type, Nat, Type, Nat | Nat @1 | -1: m4 ~ 'Z; -1: m6 ~ 'S r0 | -1: m0 ~ (m1 -> m2), -1: m1 ~ Vec m3 m4, 0: Int ~ m2, -1: m1 ~ Vec m5 m6, 1: Int ~ m2", "m0"},
		{"x : forall (n : Nat). Vec a n -> Int; x (VCons y VNil) = 1;", " | Type @1, Nat @1, Nat @2 | -1:; 0: r1 ~ 'S r2; 1: r2 ~ 'Z | 2: Int ~ Int", "forall a (b : Nat). Vec a b -> Int"},
		{"x : forall (n : Nat). Vec Int n -> Vec Int n -> Int; x (VCons y u) (VCons z v) = y;", " | Nat @1, Nat @2, Nat @3 | -1:; 0: r0 ~ 'S r1; 1: r0 ~ 'S r2 | 2: Int ~ Int", "forall (a : Nat). Vec Int a -> Vec Int a -> Int"},
		{"x (Ord y) = same y y;", "Type, Type, Type, Type @1 | Type @1 | -1: Eq r0 | -1: m0 ~ (m1 -> m2), -1: m1 ~ Some, 0: Eq m3, 0: r0 ~ m3, 0: r0 ~ m3, 0: Bool ~ m2", "m0"},
		{"x = \\(Ord y) z -> z;", "Type, Type, Type, Type @1, Type @1 | Type @1 | -1: Eq r0 | -1: m0 ~ (m1 -> m2), -1: m1 ~ Some, 0: m2 ~ (m3 -> m4), 0: m3 ~ m4", "m0"},
		{"x = \\(Hidden y) -> y;", "Type, Type, Type | Type @1, r0 @1 | -1: | -1: m0 ~ (m1 -> m2), -1: m1 ~ Hidden, 0: Proxy r0 r1 ~ m2", "m0"},
		{"x Same y = y;", "Type, Type, Type, Type, Type, Type, Type |  | -1: m6 ~ m5 | -1: m0 ~ (m1 -> m2), -1: m2 ~ (m3 -> m4), -1: m1 ~ Same m5 m6, 0: m3 ~ m4", "m0"},
		{"x (Poly f) = f 1;", "Type, Type, Type, Type |  |  | -1: m0 ~ (m1 -> m2), -1: m1 ~ Poly, -1: Int ~ m3, -1: m3 ~ m2", "m0"},
		{"x = Poly (\\y -> y);", "Type | Type @1 | -1: | 0: r0 ~ r0, -1: Poly ~ m0", "m0"},
		{"x = Point { py = 1, px = True };", "Type, Type |  |  | -1: Int ~ Int, -1: Bool ~ m1, -1: Point m1 ~ m0", "m0"},
		{"x y = y { px = 1 };", "Type, Type, Type, Type |  |  | -1: m0 ~ (m1 -> m2), -1: m1 ~ Point m3, -1: Int ~ m3, -1: Point m3 ~ m2", "m0"},
		{"x y = y { py = 1, px = 2 };", "Type, Type, Type, Type |  |  | -1: m0 ~ (m1 -> m2), -1: m1 ~ Point m3, -1: Int ~ Int, -1: Int ~ m3, -1: Point m3 ~ m2", "m0"},
		{"x = Age { years = 1 };", "Type |  |  | -1: Int ~ Int, -1: Age ~ m0", "m0"},
		{"x = Box { un = Nil };", "Type, Type, m1 -> Type, m1, Type |  |  | -1: List m4 ~ m2 m3, -1: Box m1 m2 m3 ~ m0", "m0"},
		{"x = un;", "Type, Type, m1 -> Type, m1 |  |  | -1: (Box m1 m2 m3 -> m2 m3) ~ m0", "m0"},
		{"x = insert 1;", "Type, Type, Type |  |  | -1: Collect m1 m2, -1: Int ~ m2, -1: (m1 -> m1) ~ m0", "m0"},
		{"x = map;", "Type, Type -> Type, Type, Type |  |  | -1: Functor m1, -1: ((m2 -> m3) -> m1 m2 -> m1 m3) ~ m0", "m0"},
		{"x y = z y; z y = x y;", "Type, Type, Type, Type, Type, Type, Type, Type, Type, Type |  |  | -1: m0 ~ (m2 -> m3), -1: m1 ~ (m4 -> m5), -1: m2 ~ m4, -1: m5 ~ m3, -1: m1 ~ (m6 -> m7), -1: m0 ~ (m8 -> m9), -1: m6 ~ m8, -1: m9 ~ m7", "m0, m1"},
		{"x ~(Pair y z) = y;", "Type, Type, Type, Type, Type |  |  | -1: m0 ~ (m1 -> m2), -1: m1 ~ Pair m3 m4, -1: m3 ~ m2", "m0"},
		{"x (Box y) = y;", "Type, Type, Type, Type, m3 -> Type, m3 |  |  | -1: m0 ~ (m1 -> m2), -1: m1 ~ Box m3 m4 m5, -1: m4 m5 ~ m2", "m0"},
		{"x = poly (\\y -> case y of { True -> \\z -> z; });", "Type, Type @1, Type @1 | Type @1 | -1: | 0: r0 ~ Bool, 0: r0 ~ (m1 -> m2), 0: m1 ~ m2, -1: Int ~ m0", "m0"},
		{"x : (Int -> Int) -> forall a. a -> a; x f | True = \\y -> y | False = \\y -> y;", " | Type @1, Type @1 | -1:; -1: | -1: Bool ~ Bool, 0: r0 ~ r0, -1: Bool ~ Bool, 1: r1 ~ r1", "(Int -> Int) -> forall a. a -> a"},
		{"x : forall a. a -> Int; x y = ((\\z -> 1) : Eq a => a -> Int) y;", " | Type @1 | -1:; 0: Eq r0 | 1: Int ~ Int, 0: Eq r0, 0: r0 ~ r0, 0: Int ~ Int", "forall a. a -> Int"},
		{"x : forall a. a -> Int; x y = z 1 where { z : forall a. a -> a; z u = (u : a); v : a; v = y; };", "Type @1 | Type @1, Type @2 | -1:; 0: | 1: r1 ~ r1, 1: r1 ~ r1, 0: r0 ~ r0, 0: Int ~ m0, 0: m0 ~ Int", "forall a. a -> Int"},
		{"x = ((\\y -> (y : a)) : forall b a. Eq b => a -> a);", "Type, Type, Type | Type @1, Type @1 | -1: Eq r0 | 0: r1 ~ r1, 0: r1 ~ r1, -1: Eq m1, -1: (m2 -> m2) ~ m0", "m0"},
		{"x = ((\\y -> (y : a)) : forall a. a -> b -> a);", "Type, Type, Type | Type @1, Type @1 | -1: | 0: r1 ~ r1, 0: r1 ~ (r0 -> r1), -1: (m2 -> m1 -> m2) ~ m0", "m0"},
		{"x = (\\y -> y) (\\z -> z) 1;", "Type, Type, Type, Type, Type, Type |  |  | -1: m1 ~ (m2 -> m3), -1: m2 ~ m3, -1: m1 ~ (m4 -> m5), -1: Int ~ m4, -1: m5 ~ m0", "m0"},
		{"x = (if True then add else sub) 1;", "Type, Type, Type, Type |  |  | -1: Bool ~ Bool, -1: (Int -> Int -> Int) ~ m1, -1: (Int -> Int -> Int) ~ m1, -1: m1 ~ (m2 -> m3), -1: Int ~ m2, -1: m3 ~ m0", "m0"},
		{"x = let { y = y; } in let { z = y; } in z;", "Type, Type, Type |  |  | -1: m1 ~ m1, -1: m1 ~ m2, -1: m2 ~ m0", "m0"},
		{"x = let { y = 1; z = \\u -> y; } in z y;", "Type, Type, Type, Type, Type, Type, Type |  |  | -1: Int ~ m1, -1: m2 ~ (m3 -> m4), -1: m1 ~ m4, -1: m2 ~ (m5 -> m6), -1: m1 ~ m5, -1: m6 ~ m0", "m0"},
		{"x (Some y) (Some z) = 1; x u v = 2;", "Type, Type, Type, Type, Type | Type @1, Type @2 | -1:; 0: | -1: m0 ~ (m1 -> m2), -1: m2 ~ (m3 -> m4), -1: m1 ~ Some, 0: m3 ~ Some, 1: Int ~ m4, -1: Int ~ m4", "m0"},
		{"x (Pair (Some y) (Ord z)) = case y of { u -> u; };", "Type, Type, Type, Type, Type | Type @1, Type @2 | -1:; 0: Eq r1 | -1: m0 ~ (m1 -> m2), -1: m1 ~ Pair m3 m4, -1: m3 ~ Some, 0: m4 ~ Some, 1: r0 ~ m2", "m0"},
		{"x y = case y of { Same -> case y of { Same -> 1; }; Same -> 2; };", "Type, Type, Type, Type, Type, Type @1, Type @1, Type, Type |  | -1: m4 ~ m3; 0: m6 ~ m5; -1: m8 ~ m7 | -1: m0 ~ (m1 -> m2), -1: m1 ~ Same m3 m4, 0: m1 ~ Same m5 m6, 1: Int ~ m2, -1: m1 ~ Same m7 m8, 2: Int ~ m2", "m0"},
		{"x = \\Only -> \\Only Only -> 1;", "Type, Type, Type, Type @1, Type @1, Type @2, Type @2 |  | -1: Eq Int; 0: Eq Int; 1: Eq Int | -1: m0 ~ (m1 -> m2), -1: m1 ~ Only, 0: m2 ~ (m3 -> m4), 0: m3 ~ Only, 1: m4 ~ (m5 -> m6), 1: m5 ~ Only, 2: Int ~ m6", "m0"},
		{"x : forall (k : Type) (a : k). Proxy k a -> Int; x y = kinded @k @(Proxy k) @a y;", " | Type @1, r0 @1 | -1: | 0: Proxy r0 r1 ~ Proxy r0 r1, 0: Int ~ Int", "forall a (b : a). Proxy a b -> Int"},
		{"x : forall (n : Nat). Vec Int (Plus 'Z n) -> Int; x (VCons y z) = y;", " | Nat @1, Nat @2 | -1:; 0: Plus 'Z r0 ~ 'S r1 | 1: Int ~ Int", "forall (a : Nat). Vec Int (Plus 'Z a) -> Int"},
		{"x : Vec Int (Plus 'Z 'Z) -> Int; x VNil = 1;", " |  | -1: Plus 'Z 'Z ~ 'Z | 0: Int ~ Int", "Vec Int (Plus 'Z 'Z) -> Int"},
		{"x = (\\f u -> u) (\\(Some y) -> y) 2;", "Type, Type, Type, Type, Type | Type @1 | -1: | -1: m1 ~ (m3 -> m4), -1: m3 ~ Some, 0: r0 ~ m4, -1: Int ~ m2, -1: m2 ~ m0", "m0"},
		{"x = (y : forall a. Eq a => forall b. b -> Bool) @Int @Bool True where { y : a -> Bool; y u = True; };", "Type, Type @1 | Type @1, Type @1, Type @1 | -1:; -1: Eq r1 | 0: Bool ~ Bool, 1: (m1 -> Bool) ~ (r2 -> Bool), -1: Eq Int, -1: Bool ~ Bool, -1: Bool ~ m0", "m0"},
		{"x y = case y of { };", "Type, Type, Type |  |  | -1: m0 ~ (m1 -> m2)", "m0"},
		{"x = (\\ (Some y) -> y) (Some 1);", "Type, Type, Type | Type @1 | -1: | -1: m1 ~ Some, -1: Int ~ m2, -1: Some ~ m1, -1: r0 ~ m0", "m0"},
	} {
		p, types := lastProblem(t, row.source)
		if got := showProblem(p); got != row.problem || showEach(types) != row.types {
			t.Errorf("%s\n%s\n%s; %s", row.source, got, row.problem, showEach(types))
		}
	}
}
