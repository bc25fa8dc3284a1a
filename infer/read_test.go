package infer

import (
	"strconv"
	"strings"
	"testing"

	"damask/api"
	"damask/decl"
	"damask/internal/text"
	"damask/scope"
	"damask/syntax"
)

// world has some of everything that expressions are about.
const world = `
	data Nat : Type { Z : Nat; S : Nat -> Nat; };
	data List : Type -> Type { Nil : List a; Cons : a -> List a -> List a; };
	data Pair : Type -> Type -> Type { Pair : a -> b -> Pair a b; };
	data Vec : Type -> Nat -> Type { VNil : Vec a 'Z; VCons : forall a (n : Nat). a -> Vec a n -> Vec a ('S n); };
	data Proxy : forall (k : Type). k -> Type { Proxy : forall (k : Type) (a : k). Proxy k a; };
	data Some : Type { Some : a -> Some; Ord : Eq a => a -> Some; };
	data Same : Type -> Type -> Type { Same : Same a a; };
	data Poly : Type { Poly : (forall a. a -> a) -> Poly; };
	data Box : forall (k : Type). (k -> Type) -> k -> Type { Box : forall (k : Type) (f : k -> Type) (a : k). { un : f a } -> Box k f a; };
	data Hidden : Type { Hidden : forall (k : Type) (a : k). Proxy k a -> Hidden; };
	data Point : Type -> Type { Point : { px : a, py : Int } -> Point a; Line : { px : a } -> Point a; };
	newtype Age : Type { Age : { years : Int } -> Age; };
	data Only : Type { Only : Eq Int => Only; };
	family Plus : Nat -> Nat -> Nat { Plus 'Z m = m; Plus ('S n) m = 'S (Plus n m); };
	family Elem : Type -> Type { Elem (List a) = a; Elem Int = Bool; };
	class Eq (a) { same : a -> a -> Bool; };
	class Collect (c) (e) | c -> e { insert : e -> c -> c; };
	class Functor (f : Type -> Type) { map : (a -> b) -> f a -> f b; };
	instance Eq Int { same = eq; };
	instance forall a. Eq a => Eq (List a) { same x y = True; };
	instance Collect (List a) a { insert = Cons; };
	poly : (forall a. a -> a) -> Int;
	poly f = f 1;
	rank : Int -> (forall a. Eq a => a -> Int) -> Int;
	rank x f = f x;
	kinded : forall (k : Type) (f : k -> Type) (a : k). f a -> Int;
	kinded x = 1;
`

// resolve makes a program of the declarations of the module M.
func resolve(t *testing.T, source string) api.Program {
	t.Helper()
	l, at, e := syntax.Modules("module M { " + source + " }")
	if e != api.OK {
		t.Fatalf("%s: not read at %d", source, at)
	}
	p, e := scope.Resolve(l)
	if e != api.OK {
		t.Fatalf("%s: not resolved: %d", source, e)
	}
	return p
}

// built makes a program and its environment of the declarations of the module M.
func built(t *testing.T, source string) (api.Program, api.Env) {
	t.Helper()
	env, p, at, e := decl.Build(resolve(t, source))
	if e != api.OK {
		t.Fatalf("%s: error %d at %d", source, e, at)
	}
	return p, env
}

var short = strings.NewReplacer("M.", "", "meta", "m", "rigid", "r")

func show(t api.Type) string { return short.Replace(text.Show(t)) }

func showEach(l []api.Type) string {
	var texts []string
	for _, t := range l {
		texts = append(texts, show(t))
	}
	return strings.Join(texts, ", ")
}

// showVariable writes the kind of a variable, with its level if that is not 0.
func showVariable(kind api.Type, level int) string {
	if level == 0 {
		return show(kind)
	}
	return show(kind) + " @" + strconv.Itoa(level)
}

// showProblem writes metavariables, rigid variables, implications with their parents, and wants with their implications.
func showProblem(p api.Problem) string {
	var metas, rigids, imps, wants []string
	for _, m := range p.Metas {
		metas = append(metas, showVariable(m.Kind, m.Level))
	}
	for _, r := range p.Rigids {
		rigids = append(rigids, showVariable(r.Kind, r.Level))
	}
	for _, i := range p.Imps {
		imps = append(imps, strings.TrimSpace(strconv.Itoa(i.Parent)+": "+showEach(i.Given)))
	}
	for _, w := range p.Wants {
		wants = append(wants, strconv.Itoa(w.Imp)+": "+show(w.Type))
	}
	return strings.Join(metas, ", ") + " | " + strings.Join(rigids, ", ") + " | " + strings.Join(imps, "; ") + " | " + strings.Join(wants, ", ")
}

func errorText(e api.Errno, at int) string {
	return "error " + strconv.Itoa(int(e)) + " at " + strconv.Itoa(at)
}
