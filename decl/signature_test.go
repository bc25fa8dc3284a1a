package decl

import (
	"strings"
	"testing"

	"damask/api"
	"damask/types"
)

// TestSignatures: they come in the order of the declarations, selectors and methods in the place of their types and classes.
func TestSignatures(t *testing.T) {
	env, p := built(t, base+`
		f : forall a. a -> b -> a; f x y = x;
		data T : Type -> (Type -> Type) -> Type { A : forall a (f : Type -> Type). { one : f a, two : forall b. b -> a } -> T a f; B : forall b (g : Type -> Type). { three : Int, two : forall c. c -> b } -> T b g; };
		class C (f : Type -> Type) (n : Nat) { m : f a -> Vec Int n; (!!) : forall (k : Nat). Vec (f Int) k -> f (Vec Int n); };
		g : Int; g = 1; h x = x;
		newtype N : forall (k : Type). k -> Type { N : forall (k : Type) (a : k). { un : Proxy k a } -> N k a; };
		class Eq a => D (a) { o : Eq b => b -> a; }; class E { p : Int; };
		(+++) : Eq a => a -> a; (+++) x = x; k : forall a. (forall b. b ~ a => b) -> Int; k x = 1;
	`)
	compare(t, "signatures", entries(env, "sig")[3:], []string{
		"f : forall a b. b -> a -> b",
		"one : forall a (b : Type -> Type). T a b -> b a", "two : forall a (b : Type -> Type). T a b -> forall c. c -> a", "three : forall a (b : Type -> Type). T a b -> Int",
		"m : forall (a : Type -> Type) (b : Nat). C a b => forall c. a c -> Vec Int b", "!! : forall (a : Type -> Type) (b : Nat). C a b => forall (c : Nat). Vec (a Int) c -> a (Vec Int b)",
		"g : Int", "un : forall a (b : a). N a b -> Proxy a b", "o : forall a. D a => forall b. Eq b => b -> a", "p : E => Int",
		"+++ : forall a. Eq a => a -> a", "k : forall a. (forall b. b ~ a => b) -> Int",
	})
	// names stay in the program alone
	for _, s := range env.Sigs {
		if types.Check(s.Type) != api.OK {
			t.Error("a name in the environment:", s.Name)
		}
	}
	if d := p.Decls[baseCount]; d.Type.Args[1].S != "a" {
		t.Error("no name in the program:", d.Type)
	}
}

func TestSignatureErrors(t *testing.T) {
	many := func(n int) string {
		s := ""
		for i := range n {
			s += " a" + string(rune('a'+i))
		}
		return s
	}
	arrows := func(n int) string { return strings.Join(strings.Fields(many(n)), " -> ") }
	checkFailures(t, []failure{
		{"f : List; f = f;", 0, api.ErrKind}, {"f : 'Z; f = f;", 0, api.ErrKind}, {"f : Eq Int; f = f;", 0, api.ErrKind}, {"f : a Int; f = f;", 0, api.ErrKind}, {"f = f; f : Vec Int; g : List; g = f;", 1, api.ErrKind}, {"f : Vec Int 'VNil; f = f;", 0, api.ErrName}, {"f : Vec Int (Plus 'Z); f = f;", 0, api.ErrForm}, {"f : Int ~ Bool; f = f;", 0, api.ErrKind}, {"f : Int => Int; f = f;", 0, api.ErrKind},
		{"f : " + arrows(19) + "; f = f;", 0, api.OK}, {"f : " + arrows(20) + "; f = f;", 0, api.ErrFull}, {"g : List; g = g; f : " + arrows(20) + "; f = f;", 0, api.ErrKind},
		// with its class before it, the type of a method can be too large; that of a selector is no larger than that of its constructor
		{"class C (a) { m : " + strings.Repeat("Int -> ", 36) + "Int; };", 0, api.OK}, {"class C (a) { m : " + strings.Repeat("Int -> ", 37) + "Int; };", 0, api.ErrFull}, {"class C (a) { m : " + strings.Repeat("Int -> ", 37) + "Int; }; instance C Int { };", 1, api.ErrField},
		{"data T : Type -> Type { K : forall a. { f : " + strings.Repeat("List (", 35) + "a" + strings.Repeat(")", 35) + " } -> T a; };", 0, api.OK},
		{"data T : Type -> Type { K : forall a. { f : " + strings.Repeat("Int -> ", 35) + "Int } -> T a; };", 0, api.OK},
	})
}
