package print

import (
	"strings"
	"testing"

	"damask/api"
	"damask/internal/sample"
	"damask/syntax"
)

func read(t *testing.T, source string) []api.Module {
	t.Helper()
	l, at, e := syntax.Modules(source)
	if e != api.OK {
		t.Fatalf("%q: %d %v", source, at, e)
	}
	return l
}

// TestModules holds modules that are written in the form of chapter 3 against their texts.
func TestModules(t *testing.T) {
	for _, text := range []string{
		"",
		sample.Example,
		"module M {\n}\n",
		"module M () {\n}\n",
		"module M (x, Y, (++)) {\n  import N;\n  import O ();\n  import P (f, (+), T);\n}\n",
		sample.Example + "module M {\n}\n" + sample.Example,
	} {
		if got, e := Modules(read(t, text)); e != api.OK || got != text {
			t.Errorf("%v\n%s", e, got)
		}
	}
}

// TestDecls holds declarations against their lines.
func TestDecls(t *testing.T) {
	for _, l := range [][]string{
		{"class Eq a => Ord (a) { }"},
		{"class C (f : Type -> Type) (b) | f -> b, b -> f { m : f b; }"},
		{"class C { (+) : Int; m : forall a. a; }"},
		{"class Eq a => F a b => (a ~ b) => (a -> b) => D (a) (b) | a b -> c, c -> a b { }"},
		{"newtype N : Type -> Type deriving (Eq, Ord) { N : forall a. { un : a } -> N a; }"},
		{"newtype N : Type { N : forall a (n : Nat). { un : a, f : forall b. b -> a } -> N; O : { x : Int -> Int } -> Int -> N; }"},
		{"data T : forall k (f : k). (k -> Type) -> Type { }"},
		{"data T : Type { K : forall a. Eq a => (a -> T) -> T; L : T; }"},
		{"family F : Type { }"},
		{"family F : Type -> Type { F (a b) = a -> b; F (forall a. a) = F Int; (a ~ b) = (->); a = F 'Z; }"},
		{"instance Eq Int { }"},
		{"instance Eq a => Eq (List a) { Nil == Nil = True; Cons x y == z = False; (!=) x = f x; f = g; f x = g where { g = 1; }; }"},
		{"infixl 0 +", "infixr 9 ++", "infix 4 =="},
		{"x : Int", "(+) : a -> a"},
		{"f x = y where { y = x; }"},
		{"f x = y where { infixl 5 +; a + b = c; a + c = b where { }; (+) : Int; g = 1; g = 2; }"},
		{"(+) x = x", "(+) = f"},
		{"(+) x y z = x"},
		{"x@(A y) + !(A z) = x", "!x + ~_ = 0", "A (B x) !y + (~_) = 0"},
		{"f 0 = 1", "f n = 2"},
		{"f !x ~(A y) (A !y) _ 5 x@y = 1"},
		{"f | a + b = c | case x of { } = d | (if a then b else c) = 1 | a + (\\x -> x) = 1 | (let { } in a) + b = f | (a : Int) = 2 | (\\x -> x) = do { }"},
	} {
		source := "module M {" + strings.Join(l, ";") + ";}"
		want := "module M {\n  " + strings.Join(l, ";\n  ") + ";\n}\n"
		want = strings.ReplaceAll(strings.ReplaceAll(want, " where { }", ""), "(~_) = 0", "~_ = 0")
		if got, e := Module(read(t, source)[0]); e != api.OK || got != want {
			t.Errorf("%v\n%s%s", e, got, want)
		}
	}
}

// TestExprs holds expressions against their texts; where there are two, the first one is read.
func TestExprs(t *testing.T) {
	for _, l := range [][]string{
		{"x"}, {"12"}, {"C"}, {"(+)"}, {"f x C 1 (+)"}, {"f (g x) (x + y)"}, {"f @Int @(f a) @'Z @(->) x"}, {"f (x @Int)"},
		{"( x )", "x"}, {"((f) x) ((y))", "f x y"}, {"(f x) y", "f x y"}, {"f\n(x)", "f x"},
		{"a + b * c"}, {"(a + b) + c"}, {"a + (b + c)"}, {"(a : Int) + (b : Int)"}, {"a + b : Int"},
		{"(\\x -> x) + (let { } in y) + (if a then b else c) + \\x -> x"}, {"a + let { } in b + c"}, {"a + if b then c else d : Int"},
		{"case x of { } + do { } + case y of { _ -> x; } : Int"}, {"case x of { } + (x : Int) + case (x : Int) of { }", "case x of { } + (x : Int) + case x : Int of { }"},
		{"(a : Int) : Int"}, {"(\\x -> x) : Int"}, {"(if a then b else c) : Int"}, {"(let { } in b) : Int"}, {"(a + \\x -> x) : Int"}, {"a + (b + \\x -> x) : Int"}, {"a + (\\x -> x) + b : Int"},
		{"\\x -> y : Int"}, {"(\\x -> y) : Int"}, {"(a + (\\x -> x)) : Int", "(a + \\x -> x) : Int"}, {"a : Int -> Int"}, {"a : forall a. Eq a => a"},
		{"\\x y -> \\(!x) !y ~z -> x"}, {"\\(~x) (A y) A _ 5 x@(!y) !(~(!z)) (A (!x)) -> x", "\\(~x) (A y) A _ 5 x@(!y) !(~(!z)) (A !x) -> x"}, {"\\(A x) x@y@z !x@(A y) -> x"},
		{"\\x@5 -> x"}, {"\\_ -> x"}, {"\\(A) -> x", "\\A -> x"},
		{"(f x) { a = 1 }"}, {"f x { a = 1 }"}, {"x { a = 1, b = x : Int } { c = \\x -> x }"}, {"C { a = 1 } { b = 2 }"}, {"(C) { a = 1 }"}, {"1 { a = 2 }"}, {"f C { a = 1 } 2"}, {"(C { a = 1 }) 2", "C { a = 1 } 2"}, {"(a + b) { a = 1 }"}, {"(+) { a = a + b }"}, {"(x @Int) { a = 1 }"},
		{"(\\x -> x) y"}, {"(case x of { }) y"}, {"(do { }) @Int"}, {"(x : Int) y"}, {"f (do { }) (case x of { }) (\\x -> x) (if a then b else c)"},
		{"if a : Int then \\x -> x else let { } in if a then b else c : Int"},
		{"case x of { A x y | a -> 1 | b + c -> 2 where { a = 1; b : Int; infix 4 ==; }; !x -> y; ~(A x) -> z; x@(A y) -> 1; }"},
		{"case case x of { } of { 1 -> 2; }"},
		{"do { x <- y; A x <- let { } in y; let { }; let { x = 1; y = 2; }; let { } in x; y + z; (!x) <- y; }", "do { x <- y; A x <- let { } in y; let { }; let { x = 1; y = 2; }; let { } in x; y + z; !x <- y; }"},
		{"let { f 0 = 1; f x = 2; x + y = 3; (+) x = 1; } in f"},
	} {
		e, at, wrong := syntax.Expr(l[0])
		if wrong != api.OK {
			t.Errorf("%q: %d %v", l[0], at, wrong)
			continue
		}
		if got, wrong := Expr(e); wrong != api.OK || got != l[len(l)-1] {
			t.Errorf("%q: %q %v", l[0], got, wrong)
		}
	}
}

// TestTypes holds types against their texts; where there are two, the first one is read.
func TestTypes(t *testing.T) {
	for _, l := range [][]string{
		{"a"}, {"Int"}, {"'Z"}, {"(->)"}, {"(->) a"}, {"(->) a b", "a -> b"}, {"(->) a b c", "(a -> b) c"}, {"f (->)"},
		{"(a -> b) -> c"}, {"a -> (b -> c)", "a -> b -> c"}, {"((a)) -> (b)", "a -> b"},
		{"Vec a ('S n)"}, {"(Vec a) b", "Vec a b"}, {"f (g x) (a -> b) (a ~ b) (forall a. a) (a => b)"},
		{"(forall a. a) b"}, {"(a ~ b) c"}, {"(a -> b) c"}, {"(a => b) c"},
		{"a ~ b"}, {"f a ~ g b"}, {"(a ~ b) ~ (b -> c)"}, {"(forall a. a) ~ (a => b)"}, {"a ~ b => c"}, {"(a ~ b) => c", "a ~ b => c"}, {"(a ~ b) -> c"},
		{"Eq a => a"}, {"Eq a => Ord b => a -> b"}, {"(a -> b) => c"}, {"(a => b) => c"}, {"(forall a. a) => c"}, {"a -> b => c"}, {"(a => b) -> c"},
		{"forall a b. a -> b"}, {"forall a. forall b. a", "forall a b. a"}, {"forall a (n : Nat) b (f : Type -> Type) (g : forall a. a). a"}, {"forall (a : Type). a", "forall a. a"},
		{"(forall a. a) -> forall b. b"}, {"forall a. Eq a => forall b. b"}, {"forall (a : (Type)) (b : Type Type). b", "forall a (b : Type Type). b"}, {"forall (a : 'Type). a"},
	} {
		x, at, e := syntax.Type(l[0])
		if e != api.OK {
			t.Errorf("%q: %d %v", l[0], at, e)
			continue
		}
		if got, e := Type(x); e != api.OK || got != l[len(l)-1] {
			t.Errorf("%q: %q %v", l[0], got, e)
		}
	}
}

func con(s string) api.Type      { return api.Type{Op: api.YCon, S: s} }
func of(op int, n int) api.Type  { return api.Type{Op: op, N: n} }
func app(f, a api.Type) api.Type { return api.Type{Op: api.YApp, Args: []api.Type{f, a}} }
func fun(a, b api.Type) api.Type { return app(app(con("->"), a), b) }
func all(k, b api.Type) api.Type { return api.Type{Op: api.YAll, Args: []api.Type{k, b}} }
func bound(n int) api.Type       { return of(api.YVar, n) }
func deep(n int) api.Type {
	t := con("A")
	for ; n > 1; n-- {
		t = app(t, con("A"))
	}
	return t
}

func TestClosed(t *testing.T) {
	kind := con("Type")
	for _, c := range []struct {
		t    api.Type
		want string
	}{
		{all(kind, all(kind, fun(bound(1), bound(0)))), "forall a b. a -> b"},
		{all(con("Nat"), all(bound(0), fun(bound(1), bound(0)))), "forall (a : Nat) (b : a). a -> b"},
		{all(all(kind, bound(0)), bound(0)), "forall (a : forall a. a). a"},
		{fun(all(kind, bound(0)), all(kind, bound(0))), "(forall a. a) -> forall a. a"},
		{all(kind, fun(all(kind, fun(bound(0), bound(1))), bound(0))), "forall a. (forall b. b -> a) -> a"},
		{fun(bound(0), bound(7)), "free0 -> free7"},
		{all(kind, fun(bound(1), fun(bound(0), bound(3)))), "forall a. free0 -> a -> free2"},
		{all(bound(0), bound(0)), "forall (a : free0). a"},
		{fun(of(api.YRigid, 3), of(api.YMeta, 12)), "rigid3 -> meta12"},
		{app(app(con("~"), con("M.T")), app(con("'M.C"), of(api.YMeta, 0))), "M.T ~ 'M.C meta0"},
		{con("~"), "(~)"}, {app(con("~"), con("A")), "(~) A"}, {app(app(con("~"), con("~")), con("->")), "(~) ~ (->)"},
		{app(app(app(con("~"), con("A")), con("B")), con("C")), "(A ~ B) C"},
		{api.Type{Op: api.YImp, Args: []api.Type{app(con("Eq"), bound(9999)), con("A")}}, "Eq free9999 => A"},
		{con("no name"), "no name"},
	} {
		if got, e := Closed(c.t); e != api.OK || got != c.want {
			t.Errorf("%q, want %q: %v", got, c.want, e)
		}
	}
	x, want := bound(0), []string{}
	for i := range 38 {
		x = all(kind, x)
		want = append(want, string(rune('a'+i%26)))
		if i >= 26 {
			want[i] += "1"
		}
	}
	if got, e := Closed(x); e != api.OK || got != "forall "+strings.Join(want, " ")+". "+want[37] {
		t.Error(got, e)
	}
}

// TestErrors gives each function what is not well built or not proper, and what is not small.
func TestErrors(t *testing.T) {
	bad := api.Type{Op: api.YVar}
	badExpr := api.Expr{Op: api.XVar, S: "A"}
	large := deep(41)
	largeExpr := api.Expr{Op: api.XAnn, Args: []api.Expr{{Op: api.XInt}}, Types: []api.Type{deep(40)}}
	module := func(x api.Type) api.Module {
		return api.Module{Name: "M", All: true, Decls: []api.Decl{{Op: api.DSig, Name: "x", Type: x}}}
	}
	fine := module(con("A"))
	check := func(name, text string, e, want api.Errno) {
		if e != want || e != api.OK && text != "" {
			t.Error(name, text, e)
		}
	}
	for _, c := range []struct {
		m api.Module
		e api.Errno
	}{{module(deep(40)), api.OK}, {module(bad), api.ErrArg}, {module(large), api.ErrFull}, {api.Module{}, api.ErrArg}} {
		text, e := Module(c.m)
		check("Module", text, e, c.e)
		text, e = Modules([]api.Module{fine, c.m})
		check("Modules", text, e, c.e)
	}
	text, e := Modules([]api.Module{fine, module(large), module(bad)})
	check("the first one decides", text, e, api.ErrFull)
	text, e = Modules(make([]api.Module, 1))
	check("empty", text, e, api.ErrArg)
	text, e = Modules([]api.Module{fine, fine, fine, fine, fine, fine, fine})
	check("any number", text, e, api.OK)
	text, e = Expr(badExpr)
	check("Expr", text, e, api.ErrArg)
	text, e = Expr(largeExpr)
	check("Expr", text, e, api.ErrFull)
	text, e = Type(bad)
	check("Type", text, e, api.ErrArg)
	text, e = Type(large)
	check("Type", text, e, api.ErrFull)
	for _, x := range []api.Type{{}, bound(-1), bound(10000), large, {Op: api.YName, S: "a"}, con(""), con(strings.Repeat("A", 41)), {Op: api.YAll, S: "a", Args: []api.Type{con("A"), con("A")}}, {Op: api.YApp}} {
		text, e = Closed(x)
		check("Closed", text, e, api.ErrArg)
	}
	text, e = Closed(deep(40))
	check("Closed", text, e, api.OK)
}
