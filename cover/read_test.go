package cover

import (
	"strconv"
	"strings"
	"testing"

	"damask/api"
	"damask/decl"
	"damask/internal/problem"
	"damask/internal/text"
	"damask/scope"
	"damask/syntax"
)

// world has data types of all kinds.
const world = `
	data Nat : Type { Z : Nat; S : Nat -> Nat; };
	data List : Type -> Type { Nil : List a; Cons : a -> List a -> List a; };
	data Pair : Type -> Type -> Type { Pair : a -> b -> Pair a b; };
	data Three : Type { A : Three; B : Three; C : Three; };
	data Void : Type { };
	data Vec : Type -> Nat -> Type { VNil : Vec a 'Z; VCons : forall a (n : Nat). a -> Vec a n -> Vec a ('S n); };
	data Fin : Nat -> Type { FZ : forall (n : Nat). Fin ('S n); FS : forall (n : Nat). Fin n -> Fin ('S n); };
	data Is : Type -> Type -> Type { Refl : Is a a; };
	data Ty : Type -> Type { TInt : Ty Int; TBool : Ty Bool; TList : Ty a -> Ty (List a); TPair : Ty a -> Ty b -> Ty (Pair a b); };
	data Some : Type { Some : a -> Ty a -> Some; Typed : Ty a -> a -> Some; };
	data Both : Type -> Nat -> Type { Both : forall a (n : Nat). Vec a n -> Vec Int n -> Both a n; };
	data Plus : Nat -> Nat -> Nat -> Type { Plus : forall (n : Nat) (m : Nat) (o : Nat). Add n m ~ o => Plus n m o; };
	data Shown : Type -> Type { Shown : Show a => a -> Shown a; None : Shown a; };
	newtype Age : Type { Age : Int -> Age; };
	data Wide : Type { Wide : Int -> Int -> Int -> Int -> Int -> Wide; };
	family Add : Nat -> Nat -> Nat { Add 'Z m = m; Add ('S n) m = 'S (Add n m); };
	family Elem : Type -> Type { Elem (List a) = a; Elem Int = Bool; };
	family Spin : Type { Spin = Spin; };
	class Show (a) { };
`

// typ reads a type in which some rigid variables can be.
func typ(source string) api.Type { return text.Type(source) }

func typs(source string) []api.Type {
	var l []api.Type
	for s := range strings.SplitSeq(source, ",") {
		if strings.TrimSpace(s) != "" {
			l = append(l, typ(s))
		}
	}
	return l
}

// rigids reads rigid variables by their kinds.
func rigids(source string) []api.Rigid {
	var l []api.Rigid
	for _, k := range typs(source) {
		l = append(l, api.Rigid{Kind: k, Level: 1})
	}
	return l
}

// pats reads patterns that stand one after the other.
func pats(source string) []api.Pat {
	l, at, e := syntax.Modules("module M { f " + source + " = 0; }")
	if e != api.OK {
		panic(source + ": not read at " + strconv.Itoa(at))
	}
	return l[0].Decls[0].Alts[0].Pats
}

// matrixOf reads rows, each with a semicolon behind it; a guarded one begins with a question mark.
func matrixOf(source string) ([][]api.Pat, []bool) {
	var rows [][]api.Pat
	var guarded []bool
	for s := range strings.SplitAfterSeq(source, ";") {
		s, found := strings.CutSuffix(strings.TrimSpace(s), ";")
		if !found {
			continue
		}
		s, isGuarded := strings.CutPrefix(s, "?")
		rows, guarded = append(rows, pats(s)), append(guarded, isGuarded)
	}
	return rows, guarded
}

// show writes patterns one after the other.
func show(l []api.Pat) string {
	var texts []string
	for _, p := range l {
		texts = append(texts, showOne(p))
	}
	return strings.Join(texts, " ")
}

func showOne(p api.Pat) string {
	switch p.Op {
	case api.PWild:
		return "_"
	case api.PInt:
		return strconv.Itoa(p.N)
	case api.PCon:
		if len(p.Args) == 0 {
			return p.S
		}
		return "(" + p.S + " " + show(p.Args) + ")"
	}
	return "wrong"
}

func showRows(rows [][]api.Pat) string {
	var texts []string
	for _, r := range rows {
		texts = append(texts, show(r)+";")
	}
	return strings.Join(texts, " ")
}

func showNumbers(l []int) string {
	var texts []string
	for _, n := range l {
		texts = append(texts, strconv.Itoa(n))
	}
	return strings.Join(texts, " ")
}

func env(t testing.TB) api.Env {
	t.Helper()
	return problem.Env(world)
}

// program makes a program and its environment of the declarations of the module M.
func program(t *testing.T, source string) (api.Program, api.Env) {
	t.Helper()
	l, at, e := syntax.Modules("module M { " + source + " }")
	if e != api.OK {
		t.Fatalf("%s: not read at %d", source, at)
	}
	p, e := scope.Resolve(l)
	if e != api.OK {
		t.Fatalf("%s: not resolved: %d", source, e)
	}
	env, p, at, e := decl.Build(p)
	if e != api.OK {
		t.Fatalf("%s: error %d at %d", source, e, at)
	}
	return p, env
}
