package infer

import (
	"strings"
	"testing"

	"damask/api"
	"damask/decl"
	"damask/internal/text"
	"damask/scope"
	"damask/syntax"
)

// inferred writes the names and types of the definitions of a source behind those of the world; or the error, and which of the source's declarations has it.
func inferred(t *testing.T, source string) string {
	t.Helper()
	before, _ := built(t, world)
	p, env := built(t, world+source)
	sigs, at, e := Infer(p, env)
	if e != api.OK {
		return errorText(e, at-len(before.Decls))
	}
	var l []string
	for _, s := range sigs[len(before.Groups):] {
		l = append(l, strings.TrimPrefix(s.Name, "M.")+" : "+show(s.Type))
	}
	return strings.Join(l, "; ")
}

// row is a source, and what is inferred for it.
type row struct{ source, want string }

func compare(t *testing.T, rows []row) {
	t.Helper()
	for _, r := range rows {
		if got := inferred(t, r.source); got != r.want {
			t.Errorf("%s\n%s, not %s", r.source, got, r.want)
		}
	}
}

// TestPlain: types without annotations, and what is general.
func TestPlain(t *testing.T) { compare(t, plainRows()) }

func plainRows() []row {
	return []row{
		{"k x y = x;", "k : forall a b. a -> b -> a"},
		{"f x = case x of { True -> 1; 0 -> 2; };", "error 24 at 0"},
		{"f x = g x; g x = f x;", "f : forall a b. a -> b; g : forall a b. a -> b"},
		{"f x y = g y; g x = f 1 x;", "f : forall a b. Int -> a -> b; g : forall a b. a -> b"},
		{"f = g; g = h; h x = f x;", "f : forall a b. a -> b; g : forall a b. a -> b; h : forall a b. a -> b"},
		{"id x = x; y = id 1; z = id True;", "id : forall a. a -> a; y : Int; z : Bool"},
		{"id = \\x -> x; y = Pair (id 1) (id True);", "id : forall a. a -> a; y : Pair Int Bool"},
		{"y = Pair (z 1) (z True) where { z u = u; };", "error 24 at 0"},
		{"y = Pair (z 1) (z True) where { z : a -> a; z u = u; };", "y : Pair Int Bool"},
		{"y = let { f x = x; g = f 1; } in f;", "y : Int -> Int"},
		{"f x = x x;", "error 24 at 0"},
		{"f : (forall a. a -> a) -> (forall a. a -> a); f x = x x;", "f : (forall a. a -> a) -> forall a. a -> a"},
		{"f x | x = 1; g x | 1 = x;", "error 24 at 1"},
		{"f x = if x then 1 else True;", "error 24 at 0"},
		{"f x = if x then x else False;", "f : Bool -> Bool"},
		{"f x = if 1 then 1 else 1;", "error 24 at 0"},
		{"f x y | same x y = 1 | z = 2 where { z = same x 1; };", "f : Int -> Int -> Int"},
		{"f 0 = True; f n = f (sub n 1);", "f : Int -> Bool"},
		{"f 0 x = x; f n (Cons _ y) = y;", "f : forall a. Int -> List a -> List a"},
		{"f !x = x; g ~(Pair x y) = y; h x@(Cons y _) = Pair x y;", "f : forall a. a -> a; g : forall a b. Pair a b -> b; h : forall a. List a -> Pair (List a) a"},
		{"f ~(Some x) = 1;", "error 22 at 0"},
		{"f ~(Pair (Some x) y) = 1;", "error 22 at 0"},
		{"f ~(Pair ~x !VNil) = 1;", "error 22 at 0"},
		{"f (Pair x) = 1;", "error 22 at 0"},
		{"f (Pair x y z) = 1;", "error 22 at 0"},
		{"f Z = 1; f Nil = 2;", "error 24 at 0"},
		{"f = S; g = S Z; h = S 1;", "error 24 at 2"},
		{"f = add 1 2 3;", "error 24 at 0"},
		{"f = 1 2;", "error 24 at 0"},
		{"f x = y where { y = z; z = x; };", "f : forall a. a -> a"},
		{"f x = y where { y = Pair z z; z = y; };", "error 24 at 0"},
		{"f = add; g = bindIO (put 1) (\\x -> returnIO True); h = atomically (bindSTM (newTVar 1) readTVar); u = catch get returnIO;", "f : Int -> Int -> Int; g : IO Bool; h : IO Int; u : IO Int"},
		{"f = throw; g = retry; h = seq; u = orElse retry;", "f : forall a. Int -> a; g : forall a. STM a; h : forall a b. a -> b -> b; u : forall a. STM a -> STM a"},
		{"f x = case x of { 0 -> True; True -> False; };", "error 24 at 0"},
	}
}

// TestAnnotations: annotations, and the names that they scope.
func TestAnnotations(t *testing.T) { compare(t, annotationsRows()) }

func annotationsRows() []row {
	return []row{
		{"f : forall a. a -> a; f x = (y : a) where { y = x; };", "f : forall a. a -> a"},
		{"f : a -> a; f x = (x : a);", "error 24 at 1"},
		{"f : forall a. a -> Pair a a; f x = g x where { g : a -> Pair a a; g y = Pair x y; };", "f : forall a. a -> Pair a a"},
		{"f : forall a. a -> Int; f x = g 1 where { g : forall a. a -> a; g y = (y : a); };", "f : forall a. a -> Int"},
		{"f : forall a. a -> Int; f x = g x 1 where { g : forall b. a -> b -> b; g y z = ((\\u -> z) : a -> b) y; };", "f : forall a. a -> Int"},
		{"f = ((\\x -> (x : a)) : forall a. a -> a);", "f : forall a. a -> a"},
		{"f = ((\\x y -> (y : a)) : forall a. b -> a -> a);", "f : forall a b. a -> b -> b"},
		{"f : forall a. a -> List a; f x = Cons @a x (Nil @a);", "f : forall a. a -> List a"},
		{"f : forall a. Eq a => forall b. b -> Int; f x = (1 : Int);", "f : forall a. Eq a => forall b. b -> Int"},
		{"f : Int -> forall a. a -> a; f x y = y; g = f 1 True; h = f 1;", "f : Int -> forall a. a -> a; g : Bool; h : forall a. a -> a"},
		{"f : forall a. Eq a => forall b. b -> a -> b; f x y = x; g = f @Int @Bool; h = f @Bool @Int;", "error 24 at 3"},
		{"f : forall a. Eq a => forall b. b -> a -> b; f x y = x; g = f @Int @Bool;", "f : forall a. Eq a => forall b. b -> a -> b; g : Bool -> Int -> Bool"},
		{"f : Int -> forall a. a -> a; f x y = y; g = f 1 @Bool;", "f : Int -> forall a. a -> a; g : Bool -> Bool"},
		{"f : Int -> forall a. a -> a; f x | True = \\y -> y | True = f x;", "f : Int -> forall a. a -> a"},
	}
}

// TestHigherRank: arguments that are general, which nothing but annotations makes.
func TestHigherRank(t *testing.T) { compare(t, higherRankRows()) }

func higherRankRows() []row {
	return []row{
		{"f x = poly x;", "error 24 at 0"},
		{"f = poly f where { f x = x; };", "error 24 at 0"},
		{"f = poly f where { f : a -> a; f x = x; };", "f : Int"},
		{"f = poly (\\x -> 1);", "error 24 at 0"},
		{"f = poly (add 1);", "error 24 at 0"},
		{"f (Poly g) = Pair (g 1) (g True);", "f : Poly -> Pair Int Bool"},
		{"f = Cons poly Nil;", "f : List ((forall a. a -> a) -> Int)"},
		{"f = Cons (\\x -> x) Nil;", "f : forall a. List (a -> a)"},
		{"f = rank 1 (\\x -> if same x x then 1 else 0);", "f : Int"},
		{"f = rank 1 (\\x -> if same x 1 then 1 else 0);", "error 24 at 0"},
		{"f = rank Z (\\x -> 1);", "error 24 at 0"},
		{"f : List (forall a. a -> a) -> Int; f (Cons g _) = g (g 1); f Nil = 0;", "f : List (forall a. a -> a) -> Int"},
		{"f = (poly : (forall b. b -> b) -> Int);", "f : (forall a. a -> a) -> Int"},
	}
}

// TestRefined: constructors that refine types, or hide some, and families.
func TestRefined(t *testing.T) { compare(t, refinedRows()) }

func refinedRows() []row {
	return []row{
		{"f (Some x) = x;", "error 24 at 0"},
		{"f (Some x) = 1;", "f : Some -> Int"},
		{"f (Ord x) = same x x;", "f : Some -> Bool"},
		{"f (Some x) = same x x;", "error 24 at 0"},
		{"f = Some; g = Ord; h = Ord 1; ", "error 24 at 1"},
		{"f = Ord True;", "error 24 at 0"},
		{"f = Ord 1;", "f : Some"},
		{"f Same x = x;", "error 24 at 0"},
		{"f : Same a b -> a -> b; f Same x = x;", "f : forall a b. Same a b -> a -> b"},
		{"f : Same a b -> b -> a; f Same = \\x -> x;", "f : forall a b. Same a b -> b -> a"},
		{"f : Same a b -> Same b c -> Same a c; f Same Same = Same;", "f : forall a b c. Same a b -> Same b c -> Same a c"},
		{"f : Same a b -> List a -> List b; f s x = case s of { Same -> x; };", "f : forall a b. Same a b -> List a -> List b"},
		{"f : Same a b -> a -> b; f s x = y where { y = case s of { Same -> x; }; };", "f : forall a b. Same a b -> a -> b"},
		{"f : Same a b -> a -> b; f s x = x;", "error 24 at 1"},
		{"f : Same Int Bool -> Int -> List a; f Same x = Cons x Nil;", "error 24 at 1"},
		{"f : forall a (n : Nat) (m : Nat). Vec a n -> Vec a m -> Vec a (Plus n m); f VNil y = y; f (VCons x u) y = VCons x (f u y);", "f : forall a (b : Nat) (c : Nat). Vec a b -> Vec a c -> Vec a (Plus b c)"},
		{"f : forall a (n : Nat) (m : Nat). Vec a n -> Vec a m -> Vec a (Plus n m); f VNil y = y; f (VCons x u) y = f u y;", "error 24 at 1"},
		{"f : forall a (n : Nat). Vec a ('S n) -> a; f (VCons x _) = x; g = f (VCons 1 VNil);", "f : forall a (b : Nat). Vec a ('S b) -> a; g : Int"},
		{"f : forall a (n : Nat). Vec a ('S n) -> a; f (VCons x _) = x; g = f VNil;", "error 24 at 2"},
		{"f VNil = 1;", "error 24 at 0"},
		{"f x = case VCons 1 x of { VCons y z -> z; };", "error 24 at 0"},
		{"f = VCons 1 (VCons 2 VNil);", "f : Vec Int ('S ('S 'Z))"},
		{"f : Elem a -> Elem a; f x = x; g : Elem Int; g = True; h : List a -> Elem (List a); h (Cons x _) = x;", "f : forall a. Elem a -> Elem a; g : Elem Int; h : forall a. List a -> Elem (List a)"},
		{"f : Elem a -> Elem a; f x = f x;", "error 24 at 1"},
		{"f : forall (n : Nat). Vec Int n -> Int; f v = h v where { h VNil = 0; h (VCons x _) = x; };", "f : forall (a : Nat). Vec Int a -> Int"},
		{"f : forall (n : Nat). Vec Int n -> Int; f v = h v where { h VNil = 0; h (VCons x y) = h y; };", "error 24 at 1"},
		{"f : forall (n : Nat). Vec Int n -> Int; f v = h v where { h : forall (m : Nat). Vec Int m -> Int; h VNil = 0; h (VCons x y) = h y; };", "f : forall (a : Nat). Vec Int a -> Int"},
		{"f : forall (n : Nat). Vec a n -> List a; f VNil = Nil; f (VCons x y) = Cons x (f y);", "f : forall a (b : Nat). Vec a b -> List a"},
		{"f : forall a (n : Nat). Vec a n -> Proxy Nat n -> Vec (Pair a a) n; f VNil _ = VNil; f (VCons x y) _ = VCons (Pair x x) (f y Proxy);", "f : forall a (b : Nat). Vec a b -> Proxy Nat b -> Vec (Pair a a) b"},
		{"f : forall a (n : Nat). Vec a n -> Proxy Nat n -> Vec (Pair a a) n; f VNil _ = VNil; f (VCons x y) _ = VCons (Pair x x) (f y (Proxy @Nat));", "f : forall a (b : Nat). Vec a b -> Proxy Nat b -> Vec (Pair a a) b"},
		{"f : forall a (n : Nat) (m : Nat). Vec a n -> Vec a m -> Same (Vec a (Plus n m)) (Vec a (Plus n m)); f VNil _ = Same; f (VCons _ x) y = Same;", "f : forall a (b : Nat) (c : Nat). Vec a b -> Vec a c -> Same (Vec a (Plus b c)) (Vec a (Plus b c))"},
		{"f : Same (List a) (List b) -> a -> b; f Same x = x;", "f : forall a b. Same (List a) (List b) -> a -> b"},
		{"f : Same (Elem a) b -> Elem a -> b; f Same x = x;", "f : forall a b. Same (Elem a) b -> Elem a -> b"},
		{"f : Same a (List a) -> Int; f Same = 1;", "f : forall a. Same a (List a) -> Int"},
		{"f : forall (f : Type -> Type) (g : Type -> Type) a b. Same (f a) (g b) -> a -> b; f Same x = x;", "f : forall (a : Type -> Type) (b : Type -> Type) c d. Same (a c) (b d) -> c -> d"},
		{"data Term : Type -> Type { Lit : Int -> Term Int; Is : Term Int -> Term Bool; If : Term Bool -> Term a -> Term a -> Term a; Both : Term a -> Term b -> Term (Pair a b); Fst : Term (Pair a b) -> Term a; }; eval : Term a -> a; eval (Lit n) = n; eval (Is x) = eq (eval x) 0; eval (If c x y) = if eval c then eval x else eval y; eval (Both x y) = Pair (eval x) (eval y); eval (Fst x) = case eval x of { Pair y _ -> y; };", "eval : forall a. Term a -> a"},
		{"data Term : Type -> Type { Lit : Int -> Term Int; Is : Term Int -> Term Bool; }; eval (Lit n) = n; eval (Is x) = eq (eval x) 0;", "error 24 at 1"},
		{"data Nest : Type -> Type { Flat : a -> Nest a; Nest : Nest (List a) -> Nest a; }; f : Nest a -> Int; f (Flat _) = 0; f (Nest x) = add 1 (f x);", "f : forall a. Nest a -> Int"},
		{"data Nest : Type -> Type { Flat : a -> Nest a; Nest : Nest (List a) -> Nest a; }; f (Flat _) = 0; f (Nest x) = add 1 (f x);", "error 24 at 1"},
	}
}

// TestClasses: constraints are solved, or given by annotations, but not found.
func TestClasses(t *testing.T) { compare(t, classesRows()) }

func classesRows() []row {
	return []row{
		{"f x = insert 1 x;", "error 24 at 0"},
		{"f = insert 1 Nil;", "f : List Int"},
		{"f = insert True (Cons 1 Nil);", "error 24 at 0"},
		{"f x = same x x;", "error 24 at 0"},
		{"f x = same x 1;", "f : Int -> Bool"},
		{"f = same Nil Nil;", "error 24 at 0"},
		{"f : Eq a => a -> Bool; f x = same (Cons x Nil) Nil;", "f : forall a. Eq a => a -> Bool"},
		{"f : a -> Bool; f x = same (Cons x Nil) Nil;", "error 24 at 1"},
		{"f : (forall a. Eq a => a -> Bool) -> Bool; f g = g (Cons 1 Nil);", "f : (forall a. Eq a => a -> Bool) -> Bool"},
		{"f = map;", "error 24 at 0"},
		{"instance Functor List { map f x = Nil; }; f = map (add 1) Nil; g x = map same (Cons x Nil);", "error 24 at 2"},
		{"f : forall (g : Type -> Type). Functor g => g Int -> g Int; f = map (add 1);", "f : forall (a : Type -> Type). Functor a => a Int -> a Int"},
		{"f : Eq a => a -> a -> Bool; f x y = g y where { g z = same x z; };", "f : forall a. Eq a => a -> a -> Bool"},
		{"f : Eq a => a -> a -> Bool; f x y = g (Cons y Nil) where { g : Eq b => b -> Bool; g z = same z z; };", "f : forall a. Eq a => a -> a -> Bool"},
		{"f (Ord x) = g x where { g y = same x y; };", "f : Some -> Bool"},
		{"f (Ord x) (Ord y) = same x y;", "error 24 at 0"},
		{"f : Some -> Some -> Bool; f (Ord x) (Some y) = same x x;", "f : Some -> Some -> Bool"},
		{"class Conv (a) (b) | a -> b { conv : a -> b; }; instance Conv Int Bool { conv = eq 0; }; f = conv 1; g x = if conv (add x 1) then 1 else x;", "f : Bool; g : Int -> Int"},
		{"class Conv (a) (b) | a -> b { conv : a -> b; }; f : Conv Int a => a -> a; f x = conv 1;", "f : forall a. Conv Int a => a -> a"},
		{"class Same2 (a) { other : Elem a -> a; }; instance Same2 Int { other x = if x then 1 else 2; }; f = (other True : Int);", "f : Int"},
		{"class Same2 (a) { other : Elem a -> a; }; instance Same2 (List a) { other x = Cons x Nil; }; f = (other 1 : List Int); g x = (other x : List Bool);", "f : List Int; g : Bool -> List Bool"},
	}
}

// TestFields: fields of constructors.
func TestFields(t *testing.T) { compare(t, fieldsRows()) }

func fieldsRows() []row {
	return []row{
		{"f = px; g = py; h = years; u = un;", "error 24 at 3"},
		{"f x = x { px = True }; g x = x { py = 1 }; h x = Point { py = 1, px = x }; u x = Line { px = px x };", "f : Point Bool -> Point Bool; g : forall a. Point a -> Point a; h : forall a. a -> Point a; u : forall a. Point a -> Point a"},
		{"f x = x { years = py x };", "error 24 at 0"},
		{"f = Point { py = True, px = 1 };", "error 24 at 0"},
	}
}

// TestKinds: variables of all kinds; those that are left open have the kind Type.
func TestKinds(t *testing.T) { compare(t, kindsRows()) }

func kindsRows() []row {
	return []row{
		{"f = Proxy;", "error 24 at 0"},
		{"f = kinded;", "error 24 at 0"},
		{"f = kinded Nil; g = kinded (Pair 1 True);", "error 24 at 0"},
		{"f (Box y) = y;", "error 24 at 0"},
		{"f (Proxy) = 1;", "error 24 at 0"},
		{"f = Proxy @Type; g = Proxy @(Type -> Type) @List; h = Proxy @Nat;", "f : forall a. Proxy Type a; g : Proxy (Type -> Type) List; h : forall (a : Nat). Proxy Nat a"},
		{"f : Proxy Type Int; f = Proxy;", "f : Proxy Type Int"},
		{"f : forall (k : Type) (a : k). Proxy k a; f = Proxy;", "f : forall a (b : a). Proxy a b"},
		{"f : Int; f = seq Proxy 1;", "error 24 at 1"},
		{"data App : (Type -> Type) -> Type { App : forall (f : Type -> Type). f Int -> App f; }; f (App x) = x; g = App; h = f (App Nil);", "f : forall (a : Type -> Type). App a -> a Int; g : forall (a : Type -> Type). a Int -> App a; h : List Int"},
		{"c : forall (f : Type -> Type). Int; c = 1; f = c;", "error 24 at 2"},
		{"c : forall (f : Type -> Type). Int; c = 1; f : Int; f = c @List;", "c : forall (a : Type -> Type). Int; f : Int"},
		{"c : forall (f : Type -> Type). Int; c = 1; f : Int; f = c;", "error 24 at 3"},
		{"c : forall a. Int; c = 1; f : Int; f = c; g = c;", "c : forall a. Int; f : Int; g : Int"},
		{"data App : (Type -> Type) -> Type { App : forall (f : Type -> Type). f Int -> App f; }; c : forall (f : Type -> Type). App f; c = c; f x = seq (g x) 1; g x = seq (f x) c;", "error 24 at 3"},
		{"data App : (Type -> Type) -> Type { App : forall (f : Type -> Type). f Int -> App f; }; c : forall (f : Type -> Type). App f; c = c; f x = seq (g x) c; g x = f x;", "c : forall (a : Type -> Type). App a; f : forall a (b : Type -> Type). a -> App b; g : forall a (b : Type -> Type). a -> App b"},
		{"c : List a; c = Nil; f x = seq (g x) 1; g x = seq (f x) c;", "c : forall a. List a; f : forall a. a -> Int; g : forall a b. a -> List b"},
	}
}

// TestInstances: methods, with the context given and the names scoped, and superclasses.
func TestInstances(t *testing.T) { compare(t, instancesRows()) }

func instancesRows() []row {
	return []row{
		{"instance Eq Bool { same x y = if x then y else False; };", ""},
		{"instance Eq Bool { same x y = x 1; };", "error 24 at 0"},
		{"instance Eq Bool { same = \\x -> \\y -> x; };", ""},
		{"class Eq a => Ord (a) { below : a -> a -> Bool; }; instance Ord Bool { below x y = True; };", "error 24 at 1"},
		{"class Eq a => Ord (a) { below : a -> a -> Bool; }; instance Ord Bool { below x y = True; }; instance Eq Bool { same x y = True; };", ""},
		{"class Eq a => Ord (a) { below : a -> a -> Bool; }; instance forall a. Ord a => Ord (List a) { below x y = same x y; };", ""},
		{"class Eq a => Ord (a) { below : a -> a -> Bool; }; instance forall a. Eq a => Ord (List a) { below (Cons x _) y = below x x; below x Nil = True; };", "error 24 at 1"},
		{"class Eq a => Ord (a) { below : a -> a -> Bool; }; instance Ord (List a) { below x y = True; };", "error 24 at 1"},
		{"class Ord a => Num (a) { }; class Eq a => Ord (a) { }; instance Num Int { }; instance Ord Int { };", ""},
		{"class Ord a => Num (a) { }; class Eq a => Ord (a) { }; instance Num Bool { }; instance Ord Bool { };", "error 24 at 3"},
		{"instance forall a. Eq a => Eq (Pair a Int) { same (Pair x y) z = same (x : a) x; };", ""},
		{"instance Eq a => Eq (Pair a Int) { same (Pair x y) z = same (x : a) x; };", "error 24 at 0"},
		{"instance Eq (Pair a Int) { same (Pair x y) z = same x x; };", "error 24 at 0"},
		{"class Each (f : Type -> Type) { each : forall a. a -> f a; }; instance Each List { each x = Cons x Nil; };", ""},
		{"class Each (f : Type -> Type) { each : forall a. a -> f a; }; instance Each List { each x = Cons 1 Nil; };", "error 24 at 1"},
		{"class Conv (a) { conv : Eq b => b -> a; }; instance Conv Bool { conv x = same x x; }; f = (conv 1 : Bool);", "f : Bool"},
		{"class Conv (a) { conv : b -> a; }; instance Conv Bool { conv x = same x x; };", "error 24 at 1"},
		{"class Eq a => Ord (a) { below : a -> a -> Bool; }; instance Ord Bool { below ~(Some x) y = True; };", "error 24 at 1"},
		{"class Eq a => Ord (a) { below : a -> a -> Bool; }; instance Ord Int { below ~(Some x) y = True; };", "error 22 at 1"},
		{"class Two (a) { one : a; two : a; }; instance Two Int { two ~(Some x) = 1; one = True; };", "error 24 at 1"},
		{"class Two (a) { one : a; two : a; }; instance Two Int { two = True; one ~(Some x) = 1; };", "error 22 at 1"},
		{"instance Eq Bool { same ~(Some x) y = True; }; f = 1 2;", "error 24 at 1"},
		{"data F : Type deriving (Eq) { F : (Int -> Int) -> F; }; f = 1;", "error 24 at 2"},
		{"data F : Type -> Type deriving (Eq) { F : a -> List a -> F a; E : F a; }; f = same (F 1 Nil) E;", "f : Bool"},
		{"data F : (Type -> Type) -> Type deriving (Eq) { F : forall (f : Type -> Type). f Int -> F f; };", "error 24 at 1"},
		{"class Eq a => Ord (a) { below : a -> a -> Bool; }; data F : Type -> Type deriving (Eq, Ord) { F : a -> Int -> F a; E : F a; }; instance Ord Int { below = le; };", ""},
		{"class Eq a => Ord (a) { below : a -> a -> Bool; }; data F : Type deriving (Ord) { F : F; }; instance Eq Bool { same x = x; };", "error 24 at 2"},
	}
}

// TestFirstError: the first group with an error decides, then the first instance; in a declaration what is not found by solving comes first.
func TestFirstError(t *testing.T) { compare(t, firstErrorRows()) }

func firstErrorRows() []row {
	return []row{
		{"f = 1 2; g ~(Some x) = 1;", "error 24 at 0"},
		{"g ~(Some x) = 1; f = 1 2;", "error 22 at 0"},
		{"f = g; g ~(Some x) = f; h = 1 2;", "error 22 at 0"},
		{"h = g; g = 1 2;", "error 24 at 1"},
		{"f : Int; f = g; g = 1 2;", "error 24 at 2"},
		{"f = Pair (1 2) (\\ ~(Some x) -> 1);", "error 22 at 0"},
		{"f = Pair (1 @Int) (\\ ~(Some x) -> 1);", "error 24 at 0"},
		{"f = Pair (\\ ~(Some x) -> 1) (1 @Int);", "error 22 at 0"},
		{"f = 1 @List; g = Nil @List;", "error 24 at 0"},
		{"f = Nil @List; g = (\\x -> x) @Int;", "error 23 at 0"},
		{"f = (\\x -> x) @Int;", "error 24 at 0"},
		{"f = (1 : List);", "error 23 at 0"},
		{"f = (1 : Plus 'Z);", "error 22 at 0"},
		{"f = (1 : Eq Int);", "error 23 at 0"},
		{"f = (1 : Vec Int Int);", "error 23 at 0"},
		{"f = (1 : Int Int);", "error 23 at 0"},
		{"f : Int; f = x where { x : List; x = 1; };", "error 23 at 1"},
		{"f = Point { px = 1 };", "error 28 at 0"},
		{"f = Point { px = 1, py = 1, px = 1 };", "error 28 at 0"},
		{"f = Point { px = 1, px = 1 };", "error 28 at 0"},
		{"f = Point { px = 1, years = 1 };", "error 28 at 0"},
		{"f = Line { px = 1, py = 1 };", "error 28 at 0"},
		{"f = Pair { px = 1 };", "error 28 at 0"},
		{"f = VNil { px = 1 };", "error 28 at 0"},
		{"f = Some { px = 1 };", "error 28 at 0"},
		{"f x = x { px = 1, years = 1 };", "error 28 at 0"},
		{"f x = x { px = 1, px = 1 };", "error 28 at 0"},
		{"f x = x { same = 1 };", "error 28 at 0"},
		{"f x = (Point { px = 1 }) { years = 1 };", "error 28 at 0"},
		{"f x = (1 2) { px = 1, px = 1 };", "error 28 at 0"},
	}
}

// TestModules: names are full, whatever module they are of.
func TestModules(t *testing.T) {
	l, at, e := syntax.Modules(`
		module B { import A; import C (g); y = f (g 1) True; z : List Int; z = Cons 1 (f y Nil); }
		module A { data List : Type -> Type { Nil : List a; Cons : a -> List a -> List a; }; f x y = y; }
		module C { import A (f, Cons); g x = Cons (f x x); }
	`)
	if e != api.OK {
		t.Fatal(at)
	}
	p, e := scope.Resolve(l)
	if e != api.OK {
		t.Fatal(e)
	}
	env, p, _, _ := decl.Build(p)
	sigs, at, e := Infer(p, env)
	var texts []string
	for _, s := range sigs {
		texts = append(texts, s.Name+" : "+text.Show(s.Type))
	}
	if got := strings.Join(texts, "; "); e != api.OK || got != "A.f : forall a b. a -> b -> b; C.g : forall a. a -> A.List a -> A.List a; B.y : Bool; B.z : A.List Int" {
		t.Error(got, at, e)
	}
}

// corpus are the sources of all tables.
func corpus() []string {
	var l []string
	for _, rows := range [][]row{plainRows(), annotationsRows(), higherRankRows(), refinedRows(), classesRows(), fieldsRows(), kindsRows(), instancesRows(), firstErrorRows()} {
		for _, r := range rows {
			l = append(l, r.source)
		}
	}
	return l
}
