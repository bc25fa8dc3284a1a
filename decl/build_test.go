package decl

import (
	"slices"
	"strings"
	"testing"

	"damask/api"
	"damask/internal/sample"
	"damask/internal/text"
	"damask/scope"
	"damask/syntax"
	"damask/types"
)

// base are declarations that most tests need.
const base = `
	data Nat : Type { Z : Nat; S : Nat -> Nat; };
	data List : Type -> Type { Nil : List a; Cons : a -> List a -> List a; };
	data Vec : Type -> Nat -> Type { VNil : Vec a 'Z; VCons : forall a (n : Nat). a -> Vec a n -> Vec a ('S n); };
	data Proxy : forall (k : Type). k -> Type { Proxy : forall (k : Type) (a : k). Proxy k a; };
	data P : Type -> Type -> Type { P : a -> b -> P a b; };
	family Plus : Nat -> Nat -> Nat { Plus 'Z m = m; Plus ('S n) m = 'S (Plus n m); };
	class Eq (a) { same : a -> a -> Bool; };
	class Eq a => Ord (a) { below : a -> a -> Bool; };
	class Collect (c) (e) | c -> e { insert : e -> c -> c; };
`

const baseCount = 9

// failure is where declarations behind those of base have an error, from 0 on, and which one.
type failure struct {
	source string
	at     int
	e      api.Errno
}

// checkFailures builds each source behind base, without which some have another error.
func checkFailures(t *testing.T, rows []failure) {
	t.Helper()
	for _, row := range rows {
		env, p, at, e := Build(resolve(t, base+row.source))
		if e != row.e || e != api.OK && at != baseCount+row.at || e == api.OK && at != 0 {
			t.Errorf("%s: error %d at %d", row.source, e, at-baseCount)
		}
		if e != api.OK && (len(p.Decls)+len(p.Groups)+len(env.Data)+len(env.Cons)+len(env.Families)+len(env.Classes)+len(env.Instances)+len(env.Sigs) > 0) {
			t.Error("something beside an error:", row.source)
		}
	}
}

// added returns the lines that a source adds to those of base.
func added(t *testing.T, source string) []string {
	t.Helper()
	env, _ := built(t, base)
	known := lines(env)
	env, _ = built(t, base+source)
	return slices.DeleteFunc(lines(env), func(s string) bool { return slices.Contains(known, s) })
}

// TestExample builds the example of DOC.md.
func TestExample(t *testing.T) {
	source := strings.TrimSuffix(strings.TrimPrefix(sample.Example, "module Main {\n"), "}\n")
	program := resolve(t, source)
	env, p, at, e := Build(program)
	if e != api.OK || at != 0 {
		t.Fatal(at, e)
	}
	compare(t, "the example of DOC.md", lines(env), []string{
		"data Nat : Type Z S", "data List : Type -> Type Nil Cons", "data Vec : Type -> Nat -> Type VNil VCons", "newtype Age : Type Age", "data Point : Type Point",
		"con Z of Nat", "con S of Nat args [Nat]", "con Nil of List univ [Type]", "con Cons of List univ [Type] args [free0, List free0]",
		"con VNil of Vec univ [Type, Nat] (free0 ~ 'Z)", "con VCons of Vec univ [Type, Nat] exis [Nat] (free1 ~ 'S free0) args [free2, Vec free2 free0]",
		"con Age of Age args [Int]", "con Point of Point args [Int, Int] px py",
		"family Plus/2 : Nat -> Nat -> Nat | [Nat] ['Z, free0] = free0 | [Nat, Nat] ['S free1, free0] = 'S (Plus free1 free0)",
		"class Eq [Type] {same : free0 -> free0 -> Bool}", "class Ord [Type] supers [Eq free0] {below : free0 -> free0 -> Bool}", "class Collect [Type, Type] 0 -> 1 {insert : free0 -> free1 -> free1}",
		"instance Eq [Int]", "instance Collect vars [Type] context [Eq free0] [List free0, free0]", "instance Eq vars [Type] context [Eq free0] [List free0]",
		"sig px : Point -> Int", "sig py : Point -> Int", "sig same : forall a. Eq a => a -> a -> Bool", "sig below : forall a. Ord a => a -> a -> Bool", "sig insert : forall a b. Collect a b => b -> a -> a",
		"sig ++ : forall a. List a -> List a -> List a", "sig append : forall a (b : Nat) (c : Nat). Vec a b -> Vec a c -> Vec a (Plus b c)", "sig head : forall a (b : Nat). Vec a ('S b) -> a", "sig twice : (forall a. a -> a) -> Int", "sig main : IO Unit",
	})
	if len(p.Decls) != len(program.Decls)+1 || !slices.EqualFunc(p.Groups, program.Groups, slices.Equal[[]int]) {
		t.Error(len(p.Decls), p.Groups)
	}
	compare(t, "the derived instance", showMethods(t, p.Decls[len(p.Decls)-1]), []string{
		"same Nil Nil = True;", "same (Cons x1 x2) (Cons y1 y2) = if same x1 y1 then if same x2 y2 then True else False else False;", "same _ _ = False;",
	})
}

// TestExamples are those of the chapter.
func TestExamples(t *testing.T) {
	env, _ := built(t, base)
	c, e := Con(env, "M.VCons")
	want := api.DataCon{
		Name: "M.VCons", Data: "M.Vec", Univ: []api.Type{named("Type"), named("M.Nat")}, Exis: []api.Type{named("M.Nat")}, Eqs: []api.Eq{{Left: variable(1), Right: applied(named("'M.S"), variable(0))}},
		Args: []api.Type{variable(2), applied(named("M.Vec"), variable(2), variable(0))},
	}
	if e != api.OK || showCon(c) != showCon(want) || !types.Same(c.Eqs[0].Right, want.Eqs[0].Right) {
		t.Error(showCon(c), e)
	}
	compare(t, "an existential", added(t, "data T : Type { K : forall a. a -> T; };"), []string{"data T : Type K", "con K of T exis [Type] args [free0]"})
	checkFailures(t, []failure{{"instance forall a. Eq (List a) { same x y = True; }; instance Eq (List Int) { same x y = True; };", 1, api.ErrApart}})
}

func TestBuiltin(t *testing.T) {
	env := Builtin()
	var data []string
	for _, d := range env.Data {
		data = append(data, d.Name+" : "+show(d.Kind)+" "+strings.Join(d.Cons, " "))
	}
	compare(t, "data types", data, []string{"Bool : Type False True", "Unit : Type Unit", "Int : Type ", "IO : Type -> Type ", "STM : Type -> Type ", "TVar : Type -> Type "})
	var cons []string
	for _, c := range env.Cons {
		cons = append(cons, showCon(c))
	}
	compare(t, "constructors", cons, []string{"False of Bool", "True of Bool", "Unit of Unit"})
	primitives := strings.Split(`add, sub, mul, div, mod : Int -> Int -> Int
eq, lt, le : Int -> Int -> Bool
seq : forall a b. a -> b -> b
throw : forall a. Int -> a
returnIO : forall a. a -> IO a
bindIO : forall a b. IO a -> (a -> IO b) -> IO b
put : Int -> IO Unit
get : IO Int
catch : forall a. IO a -> (Int -> IO a) -> IO a
fork : IO Unit -> IO Int
kill : Int -> Int -> IO Unit
mask : forall a. IO a -> IO a
yield : IO Unit
atomically : forall a. STM a -> IO a
returnSTM : forall a. a -> STM a
bindSTM : forall a b. STM a -> (a -> STM b) -> STM b
newTVar : forall a. a -> STM (TVar a)
readTVar : forall a. TVar a -> STM a
writeTVar : forall a. TVar a -> a -> STM Unit
retry : forall a. STM a
orElse : forall a. STM a -> STM a -> STM a`, "\n")
	n := 0
	for _, line := range primitives {
		names, typ, _ := strings.Cut(line, " : ")
		for _, name := range strings.Split(names, ", ") {
			if n >= len(env.Sigs) || env.Sigs[n].Name != name || !types.Same(env.Sigs[n].Type, text.Type(typ)) {
				t.Error("not there:", name, typ)
			}
			n++
		}
	}
	if len(env.Sigs) != n || len(env.Families)+len(env.Classes)+len(env.Instances) > 0 {
		t.Error("more than is built in")
	}
	// that of an empty program is the same, and that of another one begins with it
	empty, p, at, e := Build(api.Program{})
	if e != api.OK || at != 0 || len(p.Decls) > 0 || !sameEnv(empty, env) {
		t.Error(empty, p, at, e)
	}
	some, _ := built(t, base)
	some.Data, some.Cons, some.Sigs = some.Data[:6], some.Cons[:3], some.Sigs[:n]
	some.Families, some.Classes = nil, nil
	if !sameEnv(some, env) {
		t.Error(some)
	}
}

// TestNames: kinds know all names, but no constructor that is not built in, and all are looked at before anything else.
func TestNames(t *testing.T) {
	compare(t, "kinds", added(t, "data A : forall (b : B). C b -> Type { }; newtype N : Nat -> Type { N : forall (n : Nat). Vec (F Int) n -> N n; }; data B : Type { }; data C : B -> Type { }; family F : Type -> Type { }; class D (f : B -> Type) (g : forall (b : B). C b) { };"), []string{
		"data A : forall (a : B). C a -> Type", "newtype N : Nat -> Type N", "data B : Type", "data C : B -> Type",
		"con N of N univ [Nat] args [Vec (F Int) free0]", "family F/1 : Type -> Type", "class D [B -> Type, forall (a : B). C a]",
	})
	checkFailures(t, []failure{
		{"data A : B -> Type { }; data B : Type { }; data C : Proxy Bool 'True -> Type { };", 0, api.OK},
		{"data A : List -> Type { };", 0, api.ErrKind}, {"data A : Nat -> List Int -> Type { };", 0, api.OK}, {"data A : Vec Int { };", 0, api.ErrKind}, {"newtype A : Type -> IO { A : Int -> A Int; };", 0, api.ErrKind}, {"family F : Type -> List { };", 0, api.ErrKind}, {"class C (a : List) { };", 0, api.ErrKind}, {"class C (a : Eq Int) { };", 0, api.ErrKind},
		{"data A : Vec Int 'Z -> Type { };", 0, api.ErrName}, {"family F : Vec Int ('S 'Z) -> Type { };", 0, api.ErrName}, {"class C (a : Proxy Nat 'Z) { };", 0, api.ErrName}, {"data A : Proxy Bool 'True -> Type { };", 0, api.OK},
		{"data A : Type -> Int { };", 0, api.ErrForm}, {"newtype A : Nat { A : Int -> A; };", 0, api.ErrForm}, {"data A : Type -> Constraint { };", 0, api.ErrForm}, {"data A : forall (k : Type). k { };", 0, api.ErrForm}, {"data A : Eq Int => Type { };", 0, api.ErrForm}, {"data A : Type -> Eq Int => Type { };", 0, api.ErrForm}, {"data A : List { };", 0, api.ErrKind},
		{"family F : Int { };", 0, api.OK}, {"family F : forall (k : Type). k { };", 0, api.OK}, {"family F : Eq Int => Type { };", 0, api.OK}, {"class C { };", 0, api.OK}, {"class C (a : forall (k : Type). k) { };", 0, api.OK},
		{"data A : Plus { };", 0, api.ErrForm}, {"data A : F Int -> Type { }; family F : Type -> Type { F a = a; };", 0, api.OK}, {"data A : F -> Type { }; family F : Type -> Type { F a = a; };", 0, api.ErrForm}, {"data A : F Int -> Type { }; family F : Type -> Type -> Type { F a = IO; };", 0, api.ErrKind}, {"data A : Proxy (Type -> Type) (F Int) -> Type { }; family F : Type -> Type -> Type { F a = IO; };", 0, api.OK}, {"data A : Proxy (Type -> Type) (F Int) -> Type { }; family F : Type -> Type -> Type { };", 0, api.ErrForm},
		// of one declaration the kind comes before the form, and of all the first one decides
		{"data A : Type -> Vec { };", 0, api.ErrKind}, {"data A : Int { }; data B : List -> Type { };", 0, api.ErrForm}, {"class C (a : List) { }; data B : Int { };", 0, api.ErrKind},
		{"data A : Type { A : List -> A; }; data B : Int { };", 1, api.ErrForm}, {"f : List; f = f; instance Eq List { }; class Ord a => C (a : Nat) { }; family F : Type { F a = a; }; data A : Type { A : Nat; }; class D (a : List) { };", 6, api.ErrKind},
		// a class with so many variables has no proper kind
		{"class C " + strings.Repeat("(a)", 39) + " { };", 0, api.ErrFull}, {"class C " + strings.Repeat("(a)", 38) + " { };", 0, api.ErrTwice},
	})
}

// TestModules: declarations of several modules have names of their own, and positions in the program.
func TestModules(t *testing.T) {
	source := func(last string) api.Program {
		l, at, e := syntax.Modules("module B { import A (T, C, m); data U : Type deriving (C) { K : T -> U; }; " + last + " } module A { data T : Type { K : { f : T } -> T; }; class C (a) { m : a -> a -> Bool; }; }")
		p, e2 := scope.Resolve(l)
		if e != api.OK || e2 != api.OK {
			t.Fatal(last, at, e, e2)
		}
		return p
	}
	env, p, _, e := Build(source("instance C T { m x y = True; };"))
	if e != api.OK || len(p.Decls) != 5 {
		t.Fatal(e, len(p.Decls))
	}
	compare(t, "two modules", lines(env), []string{
		"data A.T : Type A.K", "data B.U : Type B.K", "con A.K of A.T args [A.T] A.f", "con B.K of B.U args [A.T]", "class A.C [Type] {A.m : free0 -> free0 -> Bool}",
		"instance A.C [A.T]", "instance A.C [B.U]", "sig A.f : A.T -> A.T", "sig A.m : forall a. A.C a => a -> a -> Bool",
	})
	for last, want := range map[string]api.Errno{"instance C U { m x y = True; };": api.ErrApart, "instance C T { };": api.ErrField, "f : C T; f = f;": api.ErrKind} {
		at := map[bool]int{true: 2, false: 3}[want == api.ErrApart] // the derived instance comes last, and has the position of its data type
		if _, _, n, e := Build(source(last)); n != at || e != want {
			t.Error(last, n, e)
		}
	}
}

func sameEnv(a, b api.Env) bool {
	return slices.Equal(sorted(lines(a)), sorted(lines(b))) && slices.EqualFunc(a.Sigs, b.Sigs, func(x, y api.Sig) bool { return x.Name == y.Name && types.Same(x.Type, y.Type) }) &&
		slices.EqualFunc(a.Data, b.Data, func(x, y api.DataType) bool {
			return x.Name == y.Name && x.New == y.New && types.Same(x.Kind, y.Kind) && slices.Equal(x.Cons, y.Cons)
		}) && slices.EqualFunc(a.Cons, b.Cons, func(x, y api.DataCon) bool { return showCon(x) == showCon(y) })
}

func sorted(l []string) []string {
	l = slices.Clone(l)
	slices.Sort(l)
	return l
}
