package cover

import (
	"testing"

	"damask/api"
)

// question is a matrix with its rigid variables.
type question struct{ rigids, types, rows string }

func missingOf(e api.Env, q question) string {
	rows, guarded := matrixOf(q.rows)
	l, err := Missing(e, rigids(q.rigids), typs(q.types), rows, guarded)
	if err != api.OK {
		return "error " + showNumbers([]int{int(err)})
	}
	return showRows(l)
}

func uselessOf(e api.Env, q question) string {
	rows, guarded := matrixOf(q.rows)
	l, err := Useless(e, rigids(q.rigids), typs(q.types), rows, guarded)
	if err != api.OK {
		return "error " + showNumbers([]int{int(err)})
	}
	return showNumbers(l)
}

func TestMatrices(t *testing.T) {
	e := env(t)
	for _, c := range []struct {
		question
		missing, useless string
	}{
		// the chapter's examples
		{question{"", "Bool", "True;"}, "False;", ""},
		{question{"Type, Nat", "Vec r0 ('S r1)", "(VCons x y);"}, "", ""},
		{question{"Type, Type, Nat", "Vec r0 r2, Vec r1 r2", "VNil VNil; (VCons _ _) (VCons _ _);"}, "", ""},
		// no rows, no columns
		{question{"", "", ""}, ";", ""},
		{question{"", "Bool", ""}, "_;", ""},
		{question{"", "Bool, Spin", ""}, "_ _;", ""},
		{question{"", "Void", ""}, "_;", ""},
		{question{"", "Int, Three", ""}, "_ _;", ""},
		// what matches everything
		{question{"", "Bool", "x;"}, "", ""},
		{question{"", "Bool", "_; True; x;"}, "", "1 2"},
		{question{"", "Bool", "!x; ~True;"}, "", "1"},
		{question{"", "Bool", "~True;"}, "", ""},
		{question{"", "Bool", "x@True; y@(!False); z@_;"}, "", "2"},
		{question{"", "Bool", "!True;"}, "False;", ""},
		{question{"", "Bool", "~(!x@True);"}, "", ""},
		// constructors, in their order
		{question{"", "Three", "B;"}, "A; C;", ""},
		{question{"", "Three", "C; A; B;"}, "", ""},
		{question{"", "Three", "C; A; C; B; A; _;"}, "", "2 4 5"},
		{question{"", "Three, Bool", "B True; _ False;"}, "A True; C True;", ""},
		{question{"", "Bool, Three", "True A; False _; x C;"}, "True B;", ""},
		{question{"", "Three, Three", "A _; _ A; B B; B C; C B;"}, "C C;", ""},
		{question{"", "Three, Three", "A _; _ A; B B; B C; C B; C C; _ _;"}, "", "6"},
		{question{"", "Nat", "Z; (S Z);"}, "(S (S _));", ""},
		{question{"", "Nat", "(S (S n));"}, "Z; (S Z);", ""},
		{question{"", "List Bool", "Nil; (Cons True Nil); (Cons x (Cons y z));"}, "(Cons False Nil);", ""},
		{question{"", "Pair Bool Bool", "(Pair True x); (Pair x False);"}, "(Pair False True);", ""},
		{question{"", "Pair Bool Bool, Bool", "(Pair True x) y; (Pair x False) True;"}, "(Pair False False) False; (Pair False True) _;", ""},
		{question{"", "Unit", "Unit; Unit;"}, "", "1"},
		{question{"", "Age", "(Age 1);"}, "(Age _);", ""},
		{question{"", "Age", "(Age x); _;"}, "", "1"},
		// numbers
		{question{"", "Int", "1; 0; 1;"}, "_;", "2"},
		{question{"", "Int", "1; _;"}, "", ""},
		{question{"", "Int", "_; 1;"}, "", "1"},
		{question{"", "Int, Bool", "5 True; 3 False; _ True;"}, "5 False; _ False;", ""},
		{question{"", "Int, Bool", "5 False; 3 False; x@7 True;"}, "3 True; 5 True; 7 False; _ _;", ""},
		{question{"", "Int, Bool", "5 x; 5 True; y True; 6 True; 6 False;"}, "_ False;", "1 3"},
		{question{"", "Int, Bool", "5 True; 5 True; 4 True; 5 True;"}, "4 False; 5 False; _ _;", "1 3"},
		{question{"", "Int, Int", "1 2; 2 1;"}, "1 _; 2 _; _ _;", ""},
		{question{"", "Bool, Int", "True 1; False 2;"}, "False _; True _;", ""},
		{question{"", "List Int", "(Cons 1 x); Nil;"}, "(Cons _ _);", ""},
		// guards
		{question{"", "Bool", "?x; True;"}, "False;", ""},
		{question{"", "Bool", "?True; ?True; ?_;"}, "_;", ""},
		{question{"", "Bool", "True; ?True; False; ?_;"}, "", "1 3"},
		{question{"", "", "?;"}, ";", ""},
		{question{"", "", "?; ; ;"}, "", "2"},
		// types that are refined
		{question{"Type", "Vec r0 'Z", "VNil;"}, "", ""},
		{question{"Type", "Vec r0 'Z", "(VCons x y);"}, "VNil;", "0"},
		{question{"Type", "Vec r0 'Z", "(VCons x y); _;"}, "", "0"},
		{question{"Type", "Vec r0 'Z", "x; (VCons x y);"}, "", "1"},
		{question{"Type, Nat", "Vec r0 r1", "(VCons x y);"}, "VNil;", ""},
		{question{"Type, Nat", "Vec r0 r1", "VNil; (VCons x VNil);"}, "(VCons _ (VCons _ _));", ""},
		{question{"Type, Nat", "Vec r0 r1, Vec r0 r1", "VNil x; y (VCons a VNil);"}, "(VCons _ _) (VCons _ (VCons _ _));", ""},
		{question{"Type, Nat", "Vec r0 r1, Vec r0 r1", "VNil _; _ VNil;"}, "(VCons _ _) (VCons _ _);", "1"},
		{question{"Type, Nat", "Vec r0 r1, Vec r0 r1", "VNil VNil; VNil x; _ VNil; (VCons _ _) (VCons _ _); _ _;"}, "", "1 2 4"},
		{question{"Nat", "Fin 'Z", "_;"}, "", ""},
		{question{"Nat", "Fin 'Z", ""}, "_;", ""},
		{question{"Nat", "Fin 'Z, Bool", "FZ True;"}, "", "0"},
		{question{"Nat", "Fin ('S 'Z)", "FZ;"}, "(FS _);", ""},
		{question{"Nat", "Fin ('S 'Z)", "FZ; (FS FZ);"}, "", "1"},
		{question{"Nat", "Fin ('S 'Z)", "FZ; (FS x);"}, "", ""},
		{question{"Nat", "Fin r0", "(FS (FS FZ));"}, "FZ; (FS FZ); (FS (FS (FS _)));", ""},
		{question{"Type", "Ty r0, r0", "TInt 5; TBool True;"}, "TInt _; TBool False; (TList _) _; (TPair _ _) _;", ""},
		{question{"Type", "Ty r0, r0", "(TList TBool) (Cons True Nil); (TList x) Nil; TInt _; TBool _; (TPair _ _) _;"}, "(TList TInt) (Cons _ _); (TList TBool) (Cons False _); (TList TBool) (Cons True (Cons _ _)); (TList (TList _)) (Cons _ _); (TList (TPair _ _)) (Cons _ _);", ""},
		{question{"Type, Type", "Is r0 r1, Ty r0, Ty r1", "Refl TInt TInt; Refl TBool TBool; Refl (TList _) (TList _); Refl (TPair _ _) (TPair _ _); _ _ _;"}, "", "4"},
		{question{"", "Is Int Bool", "Refl; _;"}, "", "0 1"},
		{question{"", "Is Int Int", "Refl; _;"}, "", "1"},
		{question{"Type", "Is r0 (List r0)", "Refl; _;"}, "", "0 1"},
		{question{"Type", "Is r0 (Elem r0)", "Refl; _;"}, "", "1"},
		{question{"Type", "Is r0 Int, Is r0 Bool", "Refl Refl; Refl _;"}, "", "0 1"},
		{question{"Type", "Is r0 Int, Is r0 Bool", "Refl Refl;"}, "", "0"},
		{question{"Type", "Is r0 Int, r0", "Refl 1; Refl 2;"}, "Refl _;", ""},
		{question{"Type", "Is r0 Int, Elem r0", "Refl True;"}, "Refl False;", ""},
		{question{"Nat", "Plus ('S 'Z) 'Z ('S r0), Fin r0", "Plus FZ;"}, "", "0"},
		{question{"Nat", "Plus ('S ('S 'Z)) 'Z ('S r0), Fin r0", "Plus FZ;"}, "Plus (FS _);", ""},
		{question{"", "Plus ('S 'Z) 'Z ('S 'Z)", "Plus; _;"}, "", "1"},
		{question{"", "Plus ('S 'Z) 'Z 'Z", "Plus; _;"}, "", "0 1"},
		{question{"", "Some", "(Some x TInt);"}, "(Some _ TBool); (Some _ (TList _)); (Some _ (TPair _ _)); (Typed _ _);", ""},
		{question{"", "Some", "(Some x y); (Typed TInt 3); (Typed TBool True); (Typed (TList _) Nil); (Typed (TPair x y) (Pair a b));"}, "(Typed TInt _); (Typed TBool False); (Typed (TList _) (Cons _ _));", ""},
		{question{"Type", "Shown r0", "None;"}, "(Shown _);", ""},
		{question{"Type, Nat", "Both r0 r1", "(Both VNil VNil); (Both (VCons _ _) x);"}, "", ""},
		{question{"Type, Nat", "Both r0 r1", "(Both VNil VNil); (Both (VCons _ VNil) (VCons 1 x));"}, "(Both (VCons _ VNil) (VCons _ _)); (Both (VCons _ (VCons _ _)) _);", ""},
		// types that are not looked at
		{question{"Type", "Spin, Bool", "_ True;"}, "_ False;", ""},
		{question{"Type", "r0 -> Int, forall a. a, Bool", "x _ True;"}, "_ _ False;", ""},
	} {
		if got := missingOf(e, c.question); got != c.missing {
			t.Errorf("%s | %s: missing %s, not %s", c.types, c.rows, got, c.missing)
		}
		if got := uselessOf(e, c.question); got != c.useless {
			t.Errorf("%s | %s: useless %s, not %s", c.types, c.rows, got, c.useless)
		}
	}
}
