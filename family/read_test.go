package family

import (
	"damask/api"
	"damask/internal/text"
)

func con(s string) api.Type         { return api.Type{Op: api.YCon, S: s} }
func bound(n int) api.Type          { return api.Type{Op: api.YVar, N: n} }
func meta(n int) api.Type           { return api.Type{Op: api.YMeta, N: n} }
func rigid(n int) api.Type          { return api.Type{Op: api.YRigid, N: n} }
func app(f, a api.Type) api.Type    { return api.Type{Op: api.YApp, Args: []api.Type{f, a}} }
func all(k, b api.Type) api.Type    { return api.Type{Op: api.YAll, Args: []api.Type{k, b}} }
func imp(c, b api.Type) api.Type    { return api.Type{Op: api.YImp, Args: []api.Type{c, b}} }
func list(l ...api.Type) []api.Type { return l }

func read(t string) api.Type           { return text.Type(t) }
func reads(texts ...string) []api.Type { return text.Types(nil, texts...) }
func deep(n int) api.Type              { return text.Deep(n) }
func wide(n int) api.Type              { return text.Wide(n) }
func show(t api.Type) string           { return text.Show(t) }

// source has families of all arities, of which some have equations that overlap, and some never have a normal form.
const source = `
	data Nat : Type { };
	data Shadow : Type { };
	family Plus : Nat -> Nat -> Nat { Plus 'Z m = m; Plus ('S n) m = 'S (Plus n m); };
	family Eq : Type -> Type -> Bool { Eq a a = 'True; Eq a b = 'False; };
	family Id : Type -> Type { Id a = a; };
	family Elem : Type -> Type { Elem (List a) = a; Elem (f Int) = f Bool; Elem (a -> b) = Id b; };
	family Const : Type -> Type -> Type { Const a b = a; };
	family Three : Type -> Type -> Type -> Type { Three a a a = Int; Three a b Int = Bool; Three a b c = c; };
	family One : Type { One = Id Int; };
	family Stuck : Type { };
	family Loop : Type { Loop = Loop; };
	family Grow : Type -> Type { Grow a = Grow (P a a); };
	family Swell : Type -> Type { Swell a = P (P a a) (P a a); };
	family Under : Type -> Type { Under a = forall (b : Id a). a ~ b => Pair b a; };
	family Tree : Nat -> Type { Tree 'Z = Int; Tree ('S n) = Const (Tree n) (Tree n); };
	family Shadow : Type -> Type { Shadow a = a; };
`

// number is 'S applied so often to 'Z.
func number(n int) api.Type {
	t := con("'Z")
	for range n {
		t = app(con("'S"), t)
	}
	return t
}
