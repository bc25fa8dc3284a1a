package decl

import (
	"strconv"
	"strings"
	"testing"

	"damask/api"
	"damask/types"
)

// TestDerived: instances come behind those that are declared, in the order of the data types and of what each derives.
func TestDerived(t *testing.T) {
	for _, row := range []struct {
		source    string
		instances []string
		methods   [][]string
	}{
		{"data T : Type deriving (Eq) { };", []string{"Eq [T]"}, [][]string{{"same x _ = seq x True;"}}},
		{"data T : Type deriving (Ord) { };", []string{"Ord [T]"}, [][]string{{"below x _ = seq x True;"}}},
		{"data T : Type deriving (Eq, Ord) { A : T; };", []string{"Eq [T]", "Ord [T]"}, [][]string{{"same A A = True;"}, {"below A A = True;"}}},
		{"newtype T : Type deriving (Ord, Eq) { A : Int -> T; };", []string{"Ord [T]", "Eq [T]"}, [][]string{{"below (A x1) (A y1) = if same x1 y1 then True else below x1 y1;"}, {"same (A x1) (A y1) = if same x1 y1 then True else False;"}}},
		{"data T : Type deriving (Eq, Ord) { A : T; B : Int -> T -> T; C : { c : Bool } -> T; };", []string{"Eq [T]", "Ord [T]"}, [][]string{
			{"same A A = True;", "same (B x1 x2) (B y1 y2) = if same x1 y1 then if same x2 y2 then True else False else False;", "same (C x1) (C y1) = if same x1 y1 then True else False;", "same _ _ = False;"},
			{"below A A = True;", "below (B x1 x2) (B y1 y2) = if same x1 y1 then if same x2 y2 then True else below x2 y2 else below x1 y1;", "below (C x1) (C y1) = if same x1 y1 then True else below x1 y1;", "below A (B _ _) = True;", "below A (C _) = True;", "below (B _ _) (C _) = True;", "below _ _ = False;"},
		}},
		{"data T : Type -> Nat -> (Type -> Type) -> Type -> Type deriving (Eq) { A : forall a (n : Nat) (f : Type -> Type) b. a -> Vec (f b) n -> T a n f b; };", []string{"Eq vars [Type, Nat, Type -> Type, Type] context [Eq free3, Eq free0] [T free3 free2 free1 free0]"}, [][]string{{"same (A x1 x2) (A y1 y2) = if same x1 y1 then if same x2 y2 then True else False else False;"}}},
		{"data T : forall (k : Type). k -> Type deriving (Eq) { A : forall (k : Type) (a : k). T k a; };", []string{"Eq vars [Type, free0] context [Eq free1] [T free1 free0]"}, [][]string{{"same A A = True;"}}},
		{"data T : Type deriving (Eq) { A : T; }; instance Eq Int { same = eq; }; data U : Type deriving (Ord, Eq) { B : U; }; instance Eq Bool { same x y = True; };", []string{"Eq [Int]", "Eq [Bool]", "Eq [T]", "Ord [U]", "Eq [U]"}, [][]string{{"same A A = True;"}, {"below B B = True;"}, {"same B B = True;"}}},
		{"class C (b) { m : b -> b -> Bool; }; class C x => D (x) { (<=) : x -> x -> Bool; }; data T : Type -> Type deriving (D) { A : a -> T a; };", []string{"D vars [Type] context [D free0] [T free0]"}, [][]string{{"A x1 <= A y1 = if m x1 y1 then True else (<=) x1 y1;"}}},
		{"data E : Type deriving (Order) { E : Int -> E; }; class Order (a) { order : a -> a -> Bool; };", []string{"Order [E]"}, [][]string{{"order (E x1) (E y1) = if order x1 y1 then True else False;"}}},
	} {
		env, p := built(t, base+row.source)
		compare(t, row.source, entries(env, "instance"), row.instances)
		given := resolve(t, base+row.source)
		derived := p.Decls[len(given.Decls):]
		if len(derived) != len(row.methods) {
			t.Error(row.source, len(derived))
			continue
		}
		for i, d := range derived {
			compare(t, row.source, showMethods(t, d), row.methods[i])
			in := env.Instances[len(env.Instances)-len(derived)+i]
			if d.Op != api.DInst || !types.Same(d.Type, foralls(in.Vars, implications(in.Context, applied(named(in.Class), in.Args...)))) {
				t.Error(row.source, show(d.Type))
			}
		}
		for i := range given.Decls {
			if p.Decls[i].Op != given.Decls[i].Op || p.Decls[i].Name != given.Decls[i].Name {
				t.Error("another declaration:", i)
			}
		}
	}
}

func TestDerivingErrors(t *testing.T) {
	data := "data T : Type deriving (C) { A : T; }; "
	vars := func(n int) string { return "data T : " + strings.Repeat("Type -> ", n) + "Type deriving (Eq) { };" }
	checkFailures(t, []failure{
		// classes that are not derivable
		{data + "class C (a) { m : a -> a -> Bool; };", 0, api.OK}, {data + "class C (a : Nat) { m : Vec Int a -> Bool; };", 0, api.ErrForm}, {data + "class C (a) (b) { m : a -> a -> Bool; };", 0, api.ErrForm}, {data + "class C { m : Int -> Int -> Bool; };", 0, api.ErrForm}, {data + "class C (a) { };", 0, api.ErrForm}, {data + "class C (a) { m : a -> a -> Bool; n : a; };", 0, api.ErrForm},
		{data + "class C (a) { m : a -> Bool; };", 0, api.ErrForm}, {data + "class C (a) { m : a -> a -> Int; };", 0, api.ErrForm}, {data + "class C (a) { m : a -> Int -> Bool; };", 0, api.ErrForm}, {data + "class C (a) { m : a -> a -> a -> Bool; };", 0, api.ErrForm}, {data + "class C (a) { m : forall (k : Type). a -> a -> Bool; };", 0, api.ErrForm}, {data + "class C (a) { m : b -> b -> Bool; };", 0, api.ErrForm}, {data + "class C (a) { m : Eq a => a -> a -> Bool; };", 0, api.ErrForm},
		{data + "class Ord a => C (a) { m : a -> a -> Bool; };", 0, api.ErrForm}, {data + "class Eq a => Eq a => C (a) { m : a -> a -> Bool; };", 0, api.ErrForm}, {data + "class Eq (List a) => C (a) { m : a -> a -> Bool; };", 0, api.ErrForm}, {data + "class Eq Int => C (a) { m : a -> a -> Bool; };", 0, api.ErrForm}, {data + "class N => C (a) { m : a -> a -> Bool; }; class N { };", 0, api.ErrForm}, {data + "class Collect a a => C (a) { m : a -> a -> Bool; };", 0, api.ErrForm}, {data + "class D a => C (a) { m : a -> a -> Bool; }; class D (a) { };", 0, api.ErrForm},
		{"data T : Type deriving (Nat) { };", 0, api.ErrForm}, {"data T : Type deriving (T) { };", 0, api.ErrForm}, {"data T : Type deriving (Plus) { };", 0, api.ErrForm}, {"data T : Type deriving (Int) { };", 0, api.ErrForm}, {"data T : Type deriving (Collect) { };", 0, api.ErrForm},
		// constructors that are not plain
		{"data T : Type deriving (Eq) { A : T; B : forall a. a -> T; };", 0, api.ErrForm}, {"data T : Type -> Type deriving (Eq) { A : T Int; };", 0, api.ErrForm}, {"data T : Type deriving (Eq) { A : Eq Int => T; };", 0, api.ErrForm},
		// instances of one head, in the order in which they come
		{"data T : Type deriving (Eq, Eq) { };", 0, api.ErrApart}, {"instance Eq T { same x y = True; }; data T : Type deriving (Eq) { };", 1, api.ErrApart}, {"data T : Type -> Type deriving (Eq) { }; instance Eq (T Int) { same x y = True; };", 0, api.ErrApart}, {"data T : Type deriving (Eq, C) { }; class C { };", 0, api.ErrForm}, {"instance Eq a { same x y = True; }; data T : Type deriving (Eq) { }; data U : Type deriving (C) { }; class C { };", 1, api.ErrApart},
		// the derived type must be proper
		{vars(12), 0, api.OK}, {vars(13), 0, api.ErrFull}, {vars(13) + " instance Eq T { };", 1, api.ErrKind}, {strings.Replace(vars(13), "deriving (Eq)", "deriving (Ord, Eq)", 1), 0, api.ErrFull},
	})
}

// TestManyConstructors: a derived definition may be larger than a declaration that is read.
func TestManyConstructors(t *testing.T) {
	s := "data T : Type deriving (Eq, Ord) { "
	for i := range 100 {
		s += "K" + strconv.Itoa(i) + " : Int -> T; "
	}
	_, p := built(t, base+s+"};")
	n := len(p.Decls)
	equal, order := p.Decls[n-2].Decls[0], p.Decls[n-1].Decls[0]
	if len(equal.Alts) != 101 || len(order.Alts) != 100+4950+1 {
		t.Error(len(equal.Alts), len(order.Alts))
	}
	if a := order.Alts[100+99]; a.Pats[0].S != "M.K1" || a.Pats[1].S != "M.K2" {
		t.Error(a.Pats)
	}
}
