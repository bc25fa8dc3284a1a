package syntax

import (
	"slices"
	"strconv"
	"strings"
	"testing"

	"damask/api"
	"damask/internal/sample"
)

func name(s string) api.Type         { return api.Type{Op: api.YName, S: s} }
func variable(s string) api.Expr     { return api.Expr{Op: api.XVar, S: s} }
func number(n int) api.Expr          { return api.Expr{Op: api.XInt, N: n} }
func pvar(s string) api.Pat          { return api.Pat{Op: api.PVar, S: s} }
func rhs(e api.Expr) []api.Guard     { return []api.Guard{{Then: e}} }
func exprs(l ...api.Expr) []api.Expr { return l }
func types(l ...api.Type) []api.Type { return l }

func bound(name string, alts ...api.Alt) api.Decl {
	return api.Decl{Op: api.DBind, Name: name, Alts: alts}
}

func one(t *testing.T, source string) api.Module {
	t.Helper()
	l, at, e := Modules(source)
	if e != api.OK || at != 0 || len(l) != 1 {
		t.Fatalf("%q: %d %v", source, at, e)
	}
	if e := Check(l[0]); e != api.OK {
		t.Fatalf("%q: %v", source, e)
	}
	return l[0]
}

func decls(t *testing.T, source string, want ...api.Decl) {
	t.Helper()
	m := one(t, "module M {"+source+"}")
	if !same(m.Decls, want, sameDecl) {
		t.Errorf("%q:\n%+v, want\n%+v", source, m.Decls, want)
	}
}

func TestExample(t *testing.T) {
	m := one(t, sample.Example)
	var ops []int
	for _, d := range m.Decls {
		ops = append(ops, d.Op)
	}
	want := []int{1, 1, 1, 2, 1, 3, 4, 4, 4, 5, 5, 8, 6, 7, 6, 7, 6, 7, 6, 7, 6, 7}
	if !m.All || m.Name != "Main" || !slices.Equal(ops, want) {
		t.Error(m.Name, ops)
	}
}

func TestModuleHeads(t *testing.T) {
	l, at, e := Modules("module A { } module B () { import A; import C (); import D (x, (++), Y); } -- end")
	want := []api.Module{{Name: "A", All: true}, {Name: "B", Imports: []api.Import{{Module: "A", All: true}, {Module: "C"}, {Module: "D", Names: []string{"x", "++", "Y"}}}}}
	if e != api.OK || at != 0 || !slices.EqualFunc(l, want, Same) {
		t.Error(l, at, e)
	}
	if m := one(t, "module M (T, f, (++)) { }"); m.All || !slices.Equal(m.Exports, []string{"T", "f", "++"}) {
		t.Error(m)
	}
	for _, s := range []string{"", " -- nothing\n"} {
		if l, at, e := Modules(s); len(l) != 0 || at != 0 || e != api.OK {
			t.Error(l, at, e)
		}
	}
}

func TestTypes(t *testing.T) {
	a, b, c, star := name("a"), constant("B"), name("c"), constant("Type")
	for source, want := range map[string]api.Type{
		"a":                        a,
		"B":                        b,
		"'B":                       constant("'B"),
		"(->)":                     constant("->"),
		"((a))":                    a,
		"a B c":                    applied(applied(a, b), c),
		"a (B c)":                  applied(a, applied(b, c)),
		"a -> B -> c":              function(a, function(b, c)),
		"(a -> B) -> c":            function(function(a, b), c),
		"(->) a B":                 function(a, b),
		"a ~ B":                    applied(constant("~"), a, b),
		"a B ~ c":                  applied(constant("~"), applied(a, b), c),
		"a ~ B => c":               implied(applied(constant("~"), a, b), c),
		"(a ~ B) c":                applied(constant("~"), a, b, c),
		"a -> B ~ c":               function(a, applied(constant("~"), b, c)),
		"B a => c => a -> c":       implied(applied(b, a), implied(c, function(a, c))),
		"a => B ~ c => a":          implied(a, implied(applied(constant("~"), b, c), a)),
		"forall a. a -> c":         forAll([]api.Binder{{Name: "a", Kind: star}}, function(a, c)),
		"forall (a : Type). a":     forAll([]api.Binder{{Name: "a", Kind: star}}, a),
		"forall a (c : a -> B). c": forAll([]api.Binder{{Name: "a", Kind: star}, {Name: "c", Kind: function(a, b)}}, c),
		"a -> forall c. c":         function(a, forAll([]api.Binder{{Name: "c", Kind: star}}, c)),
	} {
		got, at, e := Type(source)
		if e != api.OK || at != 0 || !SameType(got, want) || CheckType(got) != api.OK {
			t.Errorf("%q: %+v %d %v", source, got, at, e)
		}
	}
}

func TestPatterns(t *testing.T) {
	x := pvar("x")
	con := func(s string, l ...api.Pat) api.Pat { return api.Pat{Op: api.PCon, S: s, Args: l} }
	for source, want := range map[string][]api.Pat{
		"x":           {x},
		"x y":         {x, pvar("y")},
		"_":           {{Op: api.PWild}},
		"12":          {{Op: api.PInt, N: 12}},
		"K x":         {con("K"), x},
		"(K x L)":     {con("K", x, con("L"))},
		"((x))":       {x},
		"y@x":         {{Op: api.PAs, S: "y", Args: []api.Pat{x}}},
		"y@z@(K x)":   {{Op: api.PAs, S: "y", Args: []api.Pat{{Op: api.PAs, S: "z", Args: []api.Pat{con("K", x)}}}}},
		"! ~ x":       {{Op: api.PBang, Args: []api.Pat{{Op: api.PLazy, Args: []api.Pat{x}}}}},
		"!y@x ~(K x)": {{Op: api.PBang, Args: []api.Pat{{Op: api.PAs, S: "y", Args: []api.Pat{x}}}}, {Op: api.PLazy, Args: []api.Pat{con("K", x)}}},
		"(!x)":        {{Op: api.PBang, Args: []api.Pat{x}}},
	} {
		e, at, err := Expr("\\ " + source + " -> 0")
		if err != api.OK || !SameExpr(e, api.Expr{Op: api.XLam, Pats: want, Args: exprs(number(0))}) {
			t.Errorf("%q: %+v %d %v", source, e, at, err)
		}
	}
}

func TestExpressions(t *testing.T) {
	f, x, y, k := variable("f"), variable("x"), variable("y"), api.Expr{Op: api.XCon, S: "K"}
	app := func(a, b api.Expr) api.Expr { return api.Expr{Op: api.XApp, Args: exprs(a, b)} }
	rec := api.Expr{Op: api.XRec, S: "K", Fields: []string{"a", "b"}, Args: exprs(x, y)}
	upd := func(e api.Expr) api.Expr { return api.Expr{Op: api.XUpd, Fields: []string{"a"}, Args: exprs(e, x)} }
	for source, want := range map[string]api.Expr{
		"f":                                f,
		"(f)":                              f,
		"(+)":                              variable("+"),
		"K":                                k,
		"9223372036854775807":              number(1<<63 - 1),
		"f x K":                            app(app(f, x), k),
		"f (x K)":                          app(f, app(x, k)),
		"f @a x @('Z)":                     {Op: api.XAt, Args: exprs(app(api.Expr{Op: api.XAt, Args: exprs(f), Types: types(name("a"))}, x)), Types: types(constant("'Z"))},
		"f : B":                            {Op: api.XAnn, Args: exprs(f), Types: types(constant("B"))},
		"\\x -> y":                         {Op: api.XLam, Pats: []api.Pat{pvar("x")}, Args: exprs(y)},
		"let { } in x":                     {Op: api.XLet, Args: exprs(x)},
		"if f then x else y":               {Op: api.XIf, Args: exprs(f, x, y)},
		"case x of { }":                    {Op: api.XCase, Args: exprs(x)},
		"do { }":                           {Op: api.XDo},
		"x + y ++ f":                       {Op: api.XOps, Args: exprs(x, y, f), Fields: []string{"+", "++"}},
		"(x + y) ++ f":                     {Op: api.XOps, Args: exprs(api.Expr{Op: api.XOps, Args: exprs(x, y), Fields: []string{"+"}}, f), Fields: []string{"++"}},
		"K { a = x, b = y }":               rec,
		"K { a = x, b = y } { a = x }":     upd(rec),
		"(K) { a = x }":                    upd(k),
		"f { a = x }":                      upd(f),
		"f x { a = x }":                    app(f, upd(x)),
		"5 { a = x } { a = x }":            upd(upd(number(5))),
		"(f x) { a = x }":                  upd(app(f, x)),
		"(+) { a = x }":                    upd(variable("+")),
		"case x of { K -> y; _ | f = y; }": {},
		"case x of { K y | f -> y | x -> x where { }; 0 -> f; }": {Op: api.XCase, Args: exprs(x), Alts: []api.Alt{
			{Pats: []api.Pat{{Op: api.PCon, S: "K", Args: []api.Pat{pvar("y")}}}, Rhs: []api.Guard{{If: exprs(f), Then: y}, {If: exprs(x), Then: x}}},
			{Pats: []api.Pat{{Op: api.PInt}}, Rhs: rhs(f)}}},
		"do { x <- f; let { x = y; }; K y; let { } in x; K y <- x; }": {Op: api.XDo, Stmts: []api.Stmt{
			{Pat: []api.Pat{pvar("x")}, Expr: f}, {Let: true, Decls: []api.Decl{bound("x", api.Alt{Rhs: rhs(y)})}},
			{Expr: app(k, y)}, {Expr: api.Expr{Op: api.XLet, Args: exprs(x)}},
			{Pat: []api.Pat{{Op: api.PCon, S: "K", Args: []api.Pat{pvar("y")}}}, Expr: x}}},
	} {
		got, at, e := Expr(source)
		if want.Op == 0 {
			if e != api.ErrSyntax {
				t.Errorf("%q: %v", source, e)
			}
			continue
		}
		if e != api.OK || at != 0 || !SameExpr(got, want) || CheckExpr(got) != api.OK {
			t.Errorf("%q: %+v %d %v", source, got, at, e)
		}
	}
}

// TestInner holds what belongs to an inner expression against the same with parentheses.
func TestInner(t *testing.T) {
	for source, inner := range map[string]string{
		"a + \\y -> y : B":                                           "a + (\\y -> (y : B))",
		"\\x -> x + y : B : C":                                       "(\\x -> ((x + y) : B)) : C",
		"\\x -> x : B + y":                                           "(\\x -> (x : B)) + y",
		"a + \\x -> x + y":                                           "a + (\\x -> (x + y))",
		"a + if b then c else d + e : B":                             "a + (if b then c else ((d + e) : B))",
		"if \\x -> x : B then let {} in a : C else c":                "if (\\x -> (x : B)) then (let {} in (a : C)) else c",
		"let {} in a + b : B + c : C":                                "((let {} in ((a + b) : B)) + c) : C",
		"\\x -> \\y -> x y":                                          "\\x -> (\\y -> (x y))",
		"case a of {} + do {} + b : B":                               "((case a of {}) + (do {}) + b) : B",
		"a : B -> forall c. C ~ D => c d":                            "a : (B -> (forall c. ((C ~ D) => (c d))))",
		"do { let {} in a : B + c; }":                                "do { ((let {} in (a : B)) + c); }",
		"do { x : B -> B; x @ b c <- a; }":                           "",
		"do { x@y <- a; x @y; }":                                     "do { (x@y) <- a; (x @(y)); }",
		"case a of { x | case b of { y | c -> d; } -> e | f -> g; }": "case a of { x | (case b of { y | c -> d; }) -> e | f -> g; }",
	} {
		got, at, e := Expr(source)
		if inner == "" {
			if e != api.ErrSyntax {
				t.Errorf("%q: %v", source, e)
			}
			continue
		}
		want, _, e2 := Expr(inner)
		if e != api.OK || e2 != api.OK || !SameExpr(got, want) {
			t.Errorf("%q: %d %v %v\n%+v\n%+v", source, at, e, e2, got, want)
		}
	}
}

func TestClauses(t *testing.T) {
	x, y, n := pvar("x"), pvar("y"), number(1)
	alt := func(l ...api.Pat) api.Alt { return api.Alt{Pats: l, Rhs: rhs(n)} }
	decls(t, "f x = 1;", bound("f", alt(x)))
	decls(t, "f = 1; f x = 1; f x y = 1;", bound("f", alt(), alt(x), alt(x, y)))
	decls(t, "f = 1; g = 1; f = 1;", bound("f", alt()), bound("g", alt()), bound("f", alt()))
	decls(t, "f = 1; f : B; f = 1;", bound("f", alt()), api.Decl{Op: api.DSig, Name: "f", Type: constant("B")}, bound("f", alt()))
	decls(t, "x + y = 1; (+) x y = 1; (+) = 1;", bound("+", alt(x, y), alt(x, y), alt()))
	decls(t, "x@y + y = 1;", bound("+", alt(api.Pat{Op: api.PAs, S: "x", Args: []api.Pat{y}}, y)))
	decls(t, "(x) + !y = 1;", bound("+", alt(x, api.Pat{Op: api.PBang, Args: []api.Pat{y}})))
	decls(t, "K x + L = 1;", bound("+", alt(api.Pat{Op: api.PCon, S: "K", Args: []api.Pat{x}}, api.Pat{Op: api.PCon, S: "L"})))
	decls(t, "(+) : B; infixr 9 +;", api.Decl{Op: api.DSig, Name: "+", Type: constant("B")}, api.Decl{Op: api.DFix, Name: "+", S: "infixr", N: 9})
	decls(t, "f | x = 1 | y = 1 where { x = 1; x y = 1; infix 0 *; };", bound("f", api.Alt{
		Rhs:   []api.Guard{{If: exprs(variable("x")), Then: n}, {If: exprs(variable("y")), Then: n}},
		Where: []api.Decl{bound("x", alt(), alt(y)), {Op: api.DFix, Name: "*", S: "infix"}}}))
	decls(t, "instance B a { f = 1; f x = 1; (+) = 1; };", api.Decl{Op: api.DInst, Type: applied(constant("B"), name("a")),
		Decls: []api.Decl{bound("f", alt(), alt(x)), bound("+", alt())}})
	e, _, _ := Expr("let { f x = 1; f y = 1; } in 1")
	if !SameExpr(e, api.Expr{Op: api.XLet, Decls: []api.Decl{bound("f", alt(x), alt(y))}, Args: exprs(n)}) {
		t.Error(e)
	}
}

func TestDeclarations(t *testing.T) {
	a, b, star := name("a"), constant("B"), constant("Type")
	binder := api.Binder{Name: "a", Kind: star}
	decls(t, "data T : Type { };", api.Decl{Op: api.DData, Name: "T", Type: star})
	decls(t, "newtype T : Type deriving (C, D) { K : B -> T; };", api.Decl{Op: api.DNew, Name: "T", Type: star,
		Deriving: []string{"C", "D"}, Cons: []api.Con{{Name: "K", Type: function(b, constant("T"))}}})
	record := function(a, function(function(b, b), applied(constant("T"), a)))
	con := api.Con{Name: "K", Type: forAll([]api.Binder{binder}, record), Fields: []string{"x", "y"}}
	decls(t, "data T : Type { K : forall a. { x : a, y : B -> B } -> T a; L : { x : B } -> a -> B; };", api.Decl{Op: api.DData, Name: "T", Type: star,
		Cons: []api.Con{con, {Name: "L", Type: function(b, function(a, b)), Fields: []string{"x"}}}})
	decls(t, "family F : Type { }; family G : B { G a = B -> B; (a ~ B) = a; };",
		api.Decl{Op: api.DFamily, Name: "F", Type: star},
		api.Decl{Op: api.DFamily, Name: "G", Type: b, Eqs: []api.Eq{{Left: applied(constant("G"), a), Right: function(b, b)}, {Left: applied(constant("~"), a, b), Right: a}}})
	decls(t, "class C { };", api.Decl{Op: api.DClass, Name: "C"})
	decls(t, "class E a => (a ~ B) => C (a) (b : B -> B) | a -> b, a b -> c d { m : a; (+) : B; };", api.Decl{Op: api.DClass, Name: "C",
		Vars:    []api.Binder{binder, {Name: "b", Kind: function(b, b)}},
		Context: types(applied(constant("E"), a), applied(constant("~"), a, b)),
		Deps:    []api.Dep{{From: []string{"a"}, To: []string{"b"}}, {From: []string{"a", "b"}, To: []string{"c", "d"}}},
		Sigs:    []api.Sig{{Name: "m", Type: a}, {Name: "+", Type: b}}})
	decls(t, "instance forall a. E a => C (B a) { };", api.Decl{Op: api.DInst,
		Type: forAll([]api.Binder{binder}, implied(applied(constant("E"), a), applied(constant("C"), applied(b, a))))})
}

func TestWrongTokens(t *testing.T) {
	for source, at := range map[string]int{
		"x": 0, "module": 6, "module m": 7, "module M": 8, "module M (": 10, "module M (,": 10, "module M (x": 11, "module M (x,)": 12,
		"module M ((x": 11, "module M ((+": 12, "module M (->": 10, "module M {": 10, "module M { } x": 13, "module M { };": 12,
		"module M { import N }": 20, "module M { import n": 18, "module M { f = 1; import": 18, "module M { f = 1 }": 17, "module M { ; }": 11,
		"module M { f (++) = 1": 14, "module M { f x ++": 15, "module M { f -> ": 13, "module M { (x) = ": 15, "module M { K = ": 13, "module M { x@y = ": 15,
		"module M { (f) : ": 15, "module M { f | \\": 15, "module M { f | if": 15, "module M { f | x : B": 17, "module M { f = x where x": 23,
		"module M { infixl + +": 18, "module M { infixl 10 +": 18, "module M { infixl 5 f": 20, "module M { infix 5 ->": 19, "module M { infix 5 (+": 19,
		"module M { data t": 16, "module M { data T {": 18, "module M { data T : Type deriving ()": 35, "module M { data T : Type deriving C": 34,
		"module M { data T : B { k": 24, "module M { data T : B { K : { }": 30, "module M { data T : B { K : { x : B } B": 38,
		"module M { data T : B { K : forall a. forall b. {": 48, "module M { data T : B { K : B -> {": 33, "module M { data T : B { K : { X": 30,
		"module M { family F : B { forall": 26, "module M { family F : B { F -> B": 28, "module M { family F : B { F a ~": 30,
		"module M { class C a {": 21, "module M { class a b {": 21, "module M { class C (a : B) => D": 27, "module M { class C (a b) {": 25,
		"module M { class D a => C (a) | -> b": 32, "module M { class C (a) | a b ,": 29, "module M { class C (a) | a -> {": 30, "module M { class E a => d {": 26,
		"module M { class C (a) { m = ": 27, "module M { class C (a) { m : a };": 31, "module M { class a ~ B": 19,
		"module M { instance C { f : B": 26, "module M { instance C { infix": 24, "module M { instance { f": 20, "module M { deriving": 11,
		"module M { f = let { data": 21, "module M { f = let { x = 1; }": 29, "module M { f = case x of { x = 1": 29, "module M { f = case x of { x | y = ": 33,
		"module M { f = (x, ": 17, "module M { f = ()": 16, "module M { f = x { }": 19, "module M { f = x { a = 1, }": 26, "module M { f = x { X": 19,
		"module M { f = \\ -> x": 17, "module M { f = f \\x": 17, "module M { f = f @ -> ": 19, "module M { f = x + ;": 19, "module M { f = x : B : C": 21,
		"module M { f = do { A !x; };": 24, "module M { f = do { A !x <- y }": 30, "module M { f = do { x y <-": 24, "module M { f = do { (x y) <-": 26, "module M { f = do { let { } }": 28,
		"module M { f = do { K x + <-": 26, "module M { f = do { !x ;": 23, "module M { f = do { f (K !x) }": 25, "module M { f = do { let { } in x <-": 33,
		"module M { f = case x of { (++) -> ": 28, "module M { f = \\x@ -> ": 19, "module M { f = if a then b }": 27, "module M { f = x y": 18,
		"module M { f : a -> }": 20, "module M { f : a ~ b ~ c": 21, "module M { f : a ~ b -> c": 21, "module M { f : forall . a": 22, "module M { f : forall a": 23,
		"module M { f : forall (a) . a": 24, "module M { f : (-> }": 19, "module M { f : (~) a": 16, "module M { f : (a, b)": 17, "module M { f : _": 15, "module M { f : a => ; }": 20,
		"module M { f = 01; }": 15, "module M { f = ( \" }": 17,
	} {
		if l, n, e := Modules(source); e != api.ErrSyntax || n != at || len(l) != 0 {
			t.Errorf("%q: %d %v, want %d", source, n, e, at)
		}
	}
	for source, at := range map[string]int{"": 0, "x )": 2, "x = y": 2, "(x": 2, "x + -- ": 7, "data": 0, "x <- y": 2, "\\x": 2, "a -> b": 2} {
		if x, n, e := Expr(source); e != api.ErrSyntax || n != at || !SameExpr(x, api.Expr{}) {
			t.Errorf("%q: %d %v, want %d", source, n, e, at)
		}
	}
	for source, at := range map[string]int{"": 0, "a )": 2, "a ~ b ~ c": 6, "(a": 2, "~": 0, "a . b": 2, "a -> ": 5, "forall": 6, "1": 0} {
		if x, n, e := Type(source); e != api.ErrSyntax || n != at || !SameType(x, api.Type{}) {
			t.Errorf("%q: %d %v, want %d", source, n, e, at)
		}
	}
}

// bangs is a pattern that is n deep, arrows a type.
func bangs(n int) api.Pat {
	p := pvar("x")
	for ; n > 1; n-- {
		p = api.Pat{Op: api.PBang, Args: []api.Pat{p}}
	}
	return p
}

func arrows(n int) api.Type {
	t := name("a")
	for ; n > 1; n-- {
		t = applied(t, constant("B"))
	}
	return t
}

// TestDepths holds how deep the parts of expressions and declarations are.
func TestDepths(t *testing.T) {
	x := number(0)
	alt := func(p api.Pat, where ...api.Decl) api.Alt {
		return api.Alt{Pats: []api.Pat{p}, Rhs: rhs(x), Where: where}
	}
	inCase := func(a api.Alt) api.Expr { return api.Expr{Op: api.XCase, Args: exprs(x), Alts: []api.Alt{a}} }
	inLet := func(d api.Decl) api.Expr { return api.Expr{Op: api.XLet, Args: exprs(x), Decls: []api.Decl{d}} }
	inDo := func(s api.Stmt) api.Expr { return api.Expr{Op: api.XDo, Stmts: []api.Stmt{s}} }
	sig := func(n int) api.Decl { return api.Decl{Op: api.DSig, Name: "f", Type: arrows(n)} }
	for level, l := range map[int][]func(n int) api.Expr{
		2: {
			func(n int) api.Expr { return api.Expr{Op: api.XLam, Pats: []api.Pat{bangs(n)}, Args: exprs(x)} },
			func(n int) api.Expr { return api.Expr{Op: api.XAnn, Types: types(arrows(n)), Args: exprs(x)} },
			func(n int) api.Expr { return api.Expr{Op: api.XAt, Types: types(arrows(n)), Args: exprs(x)} },
			func(n int) api.Expr { return inCase(alt(bangs(n))) },
			func(n int) api.Expr { return inLet(sig(n)) },
			func(n int) api.Expr { return inLet(bound("f", alt(bangs(n)))) },
			func(n int) api.Expr { return inDo(api.Stmt{Pat: []api.Pat{bangs(n)}, Expr: x}) },
			func(n int) api.Expr { return inDo(api.Stmt{Let: true, Decls: []api.Decl{sig(n)}}) },
		},
		3: {
			func(n int) api.Expr { return inCase(alt(pvar("x"), sig(n))) },
			func(n int) api.Expr { return inCase(alt(pvar("x"), bound("f", alt(bangs(n))))) },
			func(n int) api.Expr { return inLet(bound("f", alt(pvar("x"), sig(n)))) },
			func(n int) api.Expr {
				return inDo(api.Stmt{Let: true, Decls: []api.Decl{bound("f", alt(pvar("x"), sig(n)))}})
			},
			func(n int) api.Expr { return inLet(bound("f", api.Alt{Rhs: rhs(inLet(sig(n)))})) },
		},
		4: {
			func(n int) api.Expr { return inCase(alt(pvar("x"), bound("f", alt(pvar("x"), sig(n))))) },
			func(n int) api.Expr {
				return inCase(api.Alt{Pats: []api.Pat{pvar("x")}, Rhs: []api.Guard{{If: exprs(inCase(alt(pvar("x"), sig(n)))), Then: x}}})
			},
		},
	} {
		for i, f := range l {
			full := api.MaxDepth - level + 1
			if CheckExpr(f(full)) != api.OK || CheckExpr(f(full+1)) != api.ErrFull {
				t.Error(level, i, CheckExpr(f(full)), CheckExpr(f(full+1)))
			}
			in := func(n int) api.Errno {
				return Check(api.Module{Name: "M", Decls: []api.Decl{bound("g", api.Alt{Rhs: rhs(f(n))})}})
			}
			if in(full) != api.OK || in(full+1) != api.ErrFull {
				t.Error("in a module:", level, i)
			}
		}
	}
}

func TestDepthsOfDeclarations(t *testing.T) {
	star := constant("Type")
	for i, f := range []func(n int) api.Decl{
		func(n int) api.Decl { return api.Decl{Op: api.DSig, Name: "f", Type: arrows(n)} },
		func(n int) api.Decl { return api.Decl{Op: api.DData, Name: "T", Type: arrows(n)} },
		func(n int) api.Decl {
			return api.Decl{Op: api.DNew, Name: "T", Type: star, Cons: []api.Con{{Name: "K", Type: arrows(n)}}}
		},
		func(n int) api.Decl {
			return api.Decl{Op: api.DFamily, Name: "T", Type: star, Eqs: []api.Eq{{Left: arrows(n), Right: star}}}
		},
		func(n int) api.Decl {
			return api.Decl{Op: api.DFamily, Name: "T", Type: star, Eqs: []api.Eq{{Left: star, Right: arrows(n)}}}
		},
		func(n int) api.Decl {
			return api.Decl{Op: api.DClass, Name: "T", Vars: []api.Binder{{Name: "a", Kind: arrows(n)}}}
		},
		func(n int) api.Decl { return api.Decl{Op: api.DClass, Name: "T", Context: types(arrows(n))} },
		func(n int) api.Decl {
			return api.Decl{Op: api.DClass, Name: "T", Sigs: []api.Sig{{Name: "m", Type: arrows(n)}}}
		},
		func(n int) api.Decl { return api.Decl{Op: api.DInst, Type: arrows(n)} },
		func(n int) api.Decl { return bound("f", api.Alt{Pats: []api.Pat{bangs(n)}, Rhs: rhs(number(0))}) },
		func(n int) api.Decl {
			return api.Decl{Op: api.DInst, Type: star, Decls: []api.Decl{bound("f", api.Alt{Pats: []api.Pat{bangs(n)}, Rhs: rhs(number(0))})}}
		},
		func(n int) api.Decl { // a Where is one deeper
			return bound("f", api.Alt{Rhs: rhs(number(0)), Where: []api.Decl{{Op: api.DSig, Name: "g", Type: arrows(n - 1)}}})
		},
	} {
		check := func(n int) api.Errno { return Check(api.Module{Name: "M", Decls: []api.Decl{f(n)}}) }
		if check(api.MaxDepth) != api.OK || check(api.MaxDepth+1) != api.ErrFull {
			t.Error(i, check(api.MaxDepth), check(api.MaxDepth+1))
		}
	}
	if CheckType(arrows(api.MaxDepth)) != api.OK || CheckType(arrows(api.MaxDepth+1)) != api.ErrFull {
		t.Error("types")
	}
}

// sum is an expression of n nodes.
func sum(n int) api.Expr {
	return api.Expr{Op: api.XOps, Args: slices.Repeat(exprs(number(1)), n-1), Fields: slices.Repeat([]string{"+"}, n-2)}
}

func TestNodes(t *testing.T) {
	most := api.MaxNodes
	if CheckExpr(sum(most)) != api.OK || CheckExpr(sum(most+1)) != api.ErrFull {
		t.Error("expressions")
	}
	where := func(n int) api.Decl { // a pattern, a condition, a value, a type, and n
		return bound("f", api.Alt{Pats: []api.Pat{pvar("x")}, Rhs: []api.Guard{{If: exprs(number(1)), Then: number(1)}},
			Where: []api.Decl{{Op: api.DSig, Name: "g", Type: name("a")}, bound("g", api.Alt{Rhs: rhs(sum(n))})}})
	}
	class := func(n int) api.Decl {
		d := api.Decl{Op: api.DClass, Name: "C", Vars: []api.Binder{{Name: "a", Kind: constant("Type")}}, Context: types(name("a"))}
		d.Sigs = slices.Repeat([]api.Sig{{Name: "m", Type: forAll([]api.Binder{{Name: "b", Kind: name("a")}}, name("b"))}}, n)
		return d
	}
	for i, d := range []struct {
		decl api.Decl
		want api.Errno
	}{
		{where(most - 4), api.OK}, {where(most - 3), api.ErrFull},
		{class((most - 2) / 3), api.OK}, {class((most-2)/3 + 1), api.ErrFull},
	} {
		if e := Check(api.Module{Name: "M", Decls: []api.Decl{d.decl}}); e != d.want {
			t.Error(i, e)
		}
	}
	full := bound("f", api.Alt{Rhs: rhs(sum(most))})
	two := api.Module{Name: "M", Decls: []api.Decl{full, {Op: api.DFix, Name: "+", S: "infix"}, full}}
	if Check(two) != api.OK {
		t.Error("each declaration has nodes of its own")
	}
}

func TestManyDeclarations(t *testing.T) {
	module := func(n int) api.Module {
		m := api.Module{Name: "M", All: true}
		for i := range n {
			m.Decls = append(m.Decls, bound("f"+strconv.Itoa(i), api.Alt{Rhs: rhs(number(i))}))
		}
		return m
	}
	if Check(module(api.MaxDecls)) != api.OK || Check(module(api.MaxDecls+1)) != api.ErrFull {
		t.Error("declarations")
	}
	wrong := module(api.MaxDecls + 1)
	wrong.Decls[api.MaxDecls].Name = "F"
	if Check(wrong) != api.ErrArg {
		t.Error("what is not well built comes first")
	}
	clauses := "module M {" + strings.Repeat("f = 1;", 200) + strings.Repeat("g : B;", api.MaxDecls-1)
	if _, at, e := Modules(clauses + "}"); e != api.OK {
		t.Error(at, e)
	}
	if _, at, e := Modules("module L { }" + clauses + "g : B; }"); e != api.ErrFull || at != 12 {
		t.Error(at, e)
	}
}

func TestManyModules(t *testing.T) {
	six := strings.Repeat("module M { } ", 6)
	if l, _, e := Modules(six); e != api.OK || len(l) != 6 {
		t.Error(len(l), e)
	}
	deep := "module D { f = " + strings.Repeat("x (", 40) + "x" + strings.Repeat(")", 40) + "; }"
	for source, want := range map[string]struct {
		at int
		e  api.Errno
	}{
		six + " module M { }":                     {len(six) + 1, api.ErrFull},
		six + six + six:                           {len(six), api.ErrFull},
		"\n" + deep + six + six:                   {1, api.ErrFull},
		six + deep:                                {len(six), api.ErrFull},
		"module M { } " + deep + deep:             {13, api.ErrFull},
		six + six + "module m":                    {len(six+six) + 7, api.ErrSyntax},
		deep + "x":                                {len(deep), api.ErrSyntax},
		six + six + "\"":                          {len(six + six), api.ErrSyntax},
		strings.Repeat(" ", api.MaxSource) + "\"": {0, api.ErrFull},
	} {
		if l, at, e := Modules(source); at != want.at || e != want.e || len(l) != 0 {
			t.Errorf("%q: %d %v", source, at, e)
		}
	}
}

func TestLargeSources(t *testing.T) {
	nested := func(n int) string { return " " + strings.Repeat("x (", n) + "x" + strings.Repeat(")", n) }
	if x, at, e := Expr(nested(39)); e != api.OK || at != 0 || x.Op != api.XApp {
		t.Error(at, e)
	}
	if x, at, e := Expr(nested(40)); e != api.ErrFull || at != 0 || x.Op != 0 {
		t.Error(at, e)
	}
	if x, at, e := Type(nested(39)); e != api.OK || at != 0 || x.Op != api.YApp {
		t.Error(at, e)
	}
	if x, at, e := Type(nested(40)); e != api.ErrFull || at != 0 || x.Op != 0 {
		t.Error(at, e)
	}
	brackets := strings.Repeat("(", 5999) + "x" + strings.Repeat(")", 5999)
	if x, at, e := Expr(brackets); e != api.OK || x.Op != api.XVar {
		t.Error(at, e)
	}
	if x, at, e := Type(brackets); e != api.OK || x.Op != api.YName {
		t.Error(at, e)
	}
	for _, s := range []string{"(", "f = do { let { f = ", "\\x -> ", "do { x <- ", "if ", "case ", "!", "do { ("} {
		source := "f = " + strings.Repeat(s, api.MaxSource/len(s)-20)
		if _, at, e := Modules("module M { " + source); e != api.ErrSyntax || at == 0 {
			t.Error(s, at, e)
		}
	}
	if _, at, e := Expr(strings.Repeat("x", api.MaxSource+1)); e != api.ErrFull || at != 0 {
		t.Error(at, e)
	}
}

// TestNotWellBuilt holds what the document names for types, patterns and expressions.
func TestNotWellBuilt(t *testing.T) {
	a, x, p := name("a"), variable("x"), pvar("x")
	for i, y := range []api.Type{
		{}, {Op: api.YVar}, {Op: api.YMeta, N: 1}, {Op: api.YRigid}, {Op: 9}, {Op: -1},
		name("A"), name(""), name("let"), name("averylongnameqqqq"), {Op: api.YName, S: "a", N: 1}, {Op: api.YName, S: "a", Args: types(a)},
		constant(""), constant("a"), constant("'"), constant("''A"), constant("'a"), constant("=>"), constant("M.A"), {Op: api.YCon, S: "A", N: -1},
		constant("~"), applied(constant("~"), a), applied(a, constant("~")), applied(a, applied(constant("~"), a), a), {Op: api.YCon, S: "->", Args: types(a, a)},
		{Op: api.YApp}, {Op: api.YApp, Args: types(a)}, {Op: api.YApp, Args: types(a, a, a)}, {Op: api.YApp, S: "a", Args: types(a, a)},
		{Op: api.YAll, Args: types(a, a)}, {Op: api.YAll, S: "A", Args: types(a, a)}, {Op: api.YAll, S: "a", Args: types(a)}, {Op: api.YAll, S: "a", N: 1, Args: types(a, a)},
		{Op: api.YImp, S: "a", Args: types(a, a)}, {Op: api.YImp, Args: types(a)}, implied(a, api.Type{}),
	} {
		if CheckType(y) != api.ErrArg {
			t.Error("type", i, CheckType(y))
		}
		if _, e := Names(y); e != api.ErrArg {
			t.Error("names", i, e)
		}
		if e := CheckExpr(api.Expr{Op: api.XAt, Args: exprs(x), Types: types(y)}); e != api.ErrArg {
			t.Error("type in an expression", i, e)
		}
	}
	for i, q := range []api.Pat{
		{}, {Op: 8}, {Op: api.PWild, S: "x"}, {Op: api.PWild, N: 1}, {Op: api.PWild, Args: []api.Pat{p}}, pvar("X"), pvar("+"), pvar(""), {Op: api.PVar, S: "x", Args: []api.Pat{p}},
		{Op: api.PCon, S: "x"}, {Op: api.PCon}, {Op: api.PCon, S: "M.X"}, {Op: api.PCon, S: "X", N: 1}, {Op: api.PCon, S: "X", Args: []api.Pat{{}}},
		{Op: api.PInt, N: -1}, {Op: api.PInt, S: "x"}, {Op: api.PInt, Args: []api.Pat{p}}, {Op: api.PAs, S: "x"}, {Op: api.PAs, Args: []api.Pat{p}}, {Op: api.PAs, S: "X", Args: []api.Pat{p}},
		{Op: api.PBang}, {Op: api.PBang, S: "x", Args: []api.Pat{p}}, {Op: api.PBang, Args: []api.Pat{p, p}}, {Op: api.PLazy}, {Op: api.PLazy, N: 1, Args: []api.Pat{p}},
	} {
		if e := CheckExpr(api.Expr{Op: api.XLam, Pats: []api.Pat{q}, Args: exprs(x)}); e != api.ErrArg {
			t.Error("pattern", i, e)
		}
	}
	alt := func(l ...api.Pat) api.Alt { return api.Alt{Pats: l, Rhs: rhs(x)} }
	caseOf := func(a api.Alt) api.Expr { return api.Expr{Op: api.XCase, Args: exprs(x), Alts: []api.Alt{a}} }
	do := func(s api.Stmt) api.Expr { return api.Expr{Op: api.XDo, Stmts: []api.Stmt{s}} }
	let := func(l ...api.Decl) api.Expr { return api.Expr{Op: api.XLet, Args: exprs(x), Decls: l} }
	for i, y := range []api.Expr{
		{}, {Op: 15}, variable(""), variable("X"), variable("="), variable("--"), {Op: api.XVar, S: "x", N: 1}, {Op: api.XVar, S: "x", Args: exprs(x)}, {Op: api.XCon, S: "x"}, {Op: api.XCon, S: "+"},
		number(-1), {Op: api.XInt, S: "x"}, {Op: api.XApp, Args: exprs(x)}, {Op: api.XApp, Args: exprs(x, x, x)}, {Op: api.XAt, Args: exprs(x)}, {Op: api.XAnn, Types: types(a)},
		{Op: api.XLam, Args: exprs(x)}, {Op: api.XLam, Pats: []api.Pat{p}}, {Op: api.XLet}, {Op: api.XLet, Args: exprs(x), Alts: []api.Alt{alt(p)}}, {Op: api.XCase}, {Op: api.XCase, Args: exprs(x), S: "x"},
		{Op: api.XIf, Args: exprs(x, x)}, {Op: api.XRec, S: "K"}, {Op: api.XRec, S: "k", Fields: []string{"a"}, Args: exprs(x)}, {Op: api.XRec, S: "K", Fields: []string{"A"}, Args: exprs(x)}, {Op: api.XRec, S: "K", Fields: []string{"a"}},
		{Op: api.XUpd, Args: exprs(x)}, {Op: api.XUpd, Args: exprs(x), Fields: []string{"a"}}, {Op: api.XUpd, S: "K", Args: exprs(x, x), Fields: []string{"a"}},
		{Op: api.XOps, Args: exprs(x)}, {Op: api.XOps, Args: exprs(x, x), Fields: []string{"="}}, {Op: api.XOps, Args: exprs(x, x), Fields: []string{"+", "+"}}, {Op: api.XDo, Args: exprs(x)},
		caseOf(alt()), caseOf(alt(p, p)), caseOf(api.Alt{Pats: []api.Pat{p}}), caseOf(api.Alt{Pats: []api.Pat{p}, Rhs: []api.Guard{{Then: x}, {Then: x}}}),
		caseOf(api.Alt{Pats: []api.Pat{p}, Rhs: []api.Guard{{If: exprs(x), Then: x}, {Then: x}}}), caseOf(api.Alt{Pats: []api.Pat{p}, Rhs: []api.Guard{{If: exprs(x, x), Then: x}}}),
		do(api.Stmt{}), do(api.Stmt{Let: true, Expr: x}), do(api.Stmt{Let: true, Pat: []api.Pat{p}}), do(api.Stmt{Pat: []api.Pat{p, p}, Expr: x}), do(api.Stmt{Expr: x, Decls: []api.Decl{bound("f", alt())}}),
		let(bound("f")), let(bound("f", alt()), bound("f", alt())), let(bound("F", alt())), let(api.Decl{Op: api.DData, Name: "T", Type: a}), let(api.Decl{Op: api.DInst, Type: a}), let(api.Decl{}),
		let(api.Decl{Op: api.DSig, Name: "f"}), let(api.Decl{Op: api.DSig, Type: a}), let(api.Decl{Op: api.DFix, Name: "+"}), let(api.Decl{Op: api.DFix, Name: "f", S: "infix"}), let(api.Decl{Op: api.DFix, Name: "+", S: "infix", N: 10}), let(api.Decl{Op: api.DFix, Name: "+", S: "infix", N: -1}),
	} {
		if e := CheckExpr(y); e != api.ErrArg {
			t.Error("expression", i, e)
		}
		if e := CheckExpr(let(bound("f", api.Alt{Rhs: rhs(y)}))); e != api.ErrArg {
			t.Error("expression in a declaration", i, e)
		}
	}
}

func TestNotWellBuiltModules(t *testing.T) {
	a, star := name("a"), constant("Type")
	alt := api.Alt{Rhs: rhs(number(1))}
	data := func(c ...api.Con) api.Decl { return api.Decl{Op: api.DData, Name: "T", Type: star, Cons: c} }
	if e := Check(api.Module{Name: "M", Decls: []api.Decl{bound("f", alt), bound("g", alt), bound("f", alt)}}); e != api.OK {
		t.Error(e)
	}
	for i, d := range [][]api.Decl{
		{{}}, {{Op: 9}}, {bound("f", alt), bound("f", alt)}, {bound("+", alt), bound("+", alt)},
		{{Op: api.DData, Name: "t", Type: star}}, {{Op: api.DData, Name: "T"}}, {{Op: api.DData, Name: "T", Type: star, Deriving: []string{"c"}}}, {{Op: api.DData, Name: "T", Type: star, Sigs: []api.Sig{{}}}},
		{data(api.Con{Name: "k", Type: a})}, {data(api.Con{Name: "K"})}, {data(api.Con{Name: "K", Type: a, Fields: []string{"x"}})}, {data(api.Con{Name: "K", Type: function(a, a), Fields: []string{"x", "y"}})},
		{data(api.Con{Name: "K", Type: function(a, a), Fields: []string{"X"}})}, {data(api.Con{Name: "K", Type: implied(a, function(a, a)), Fields: []string{"x"}})},
		{{Op: api.DFamily, Name: "F"}}, {{Op: api.DFamily, Name: "F", Type: star, Eqs: []api.Eq{{Left: a}}}}, {{Op: api.DFamily, Name: "F", Type: star, Vars: []api.Binder{{Name: "a", Kind: star}}}},
		{{Op: api.DClass, Name: "c"}}, {{Op: api.DClass, Name: "C", Type: star}}, {{Op: api.DClass, Name: "C", Vars: []api.Binder{{Name: "a"}}}}, {{Op: api.DClass, Name: "C", Vars: []api.Binder{{Name: "A", Kind: star}}}},
		{{Op: api.DClass, Name: "C", Deps: []api.Dep{{From: []string{"a"}}}}}, {{Op: api.DClass, Name: "C", Deps: []api.Dep{{To: []string{"a"}}}}}, {{Op: api.DClass, Name: "C", Deps: []api.Dep{{From: []string{"a"}, To: []string{"B"}}}}},
		{{Op: api.DClass, Name: "C", Sigs: []api.Sig{{Name: "M", Type: a}}}}, {{Op: api.DClass, Name: "C", Context: types(api.Type{})}},
		{{Op: api.DInst}}, {{Op: api.DInst, Name: "C", Type: star}}, {{Op: api.DInst, Type: star, Decls: []api.Decl{{Op: api.DSig, Name: "f", Type: a}}}}, {{Op: api.DInst, Type: star, Decls: []api.Decl{bound("f", alt), bound("f", alt)}}},
		{{Op: api.DFix, Name: "+", S: "infixx"}}, {{Op: api.DFix, Name: "+", S: "infix", Type: star}}, {{Op: api.DSig, Name: "f", S: "infix", Type: star}}, {{Op: api.DBind, Name: "f", N: 1, Alts: []api.Alt{alt}}},
	} {
		if e := Check(api.Module{Name: "M", Decls: d}); e != api.ErrArg {
			t.Error(i, e)
		}
	}
	for i, m := range []api.Module{
		{}, {Name: "m"}, {Name: "M.N"}, {Name: "M", All: true, Exports: []string{"f"}}, {Name: "M", Exports: []string{"->"}}, {Name: "M", Exports: []string{""}},
		{Name: "M", Imports: []api.Import{{Module: "n"}}}, {Name: "M", Imports: []api.Import{{Module: "N", All: true, Names: []string{"f"}}}}, {Name: "M", Imports: []api.Import{{Module: "N", Names: []string{"let"}}}},
	} {
		if e := Check(m); e != api.ErrArg {
			t.Error(i, e)
		}
	}
	empty := api.Module{Name: "M", All: true, Exports: []string{}, Imports: []api.Import{}, Decls: []api.Decl{{Op: api.DFix, Name: "+", S: "infix", Cons: []api.Con{}, Type: api.Type{Args: []api.Type{}}}}}
	if e := Check(empty); e != api.OK {
		t.Error("empty lists are like none:", e)
	}
}

func TestDeepValues(t *testing.T) {
	x, deep := name("a"), 60000
	for range deep {
		x = api.Type{Op: api.YImp, Args: types(constant("B"), x)}
	}
	wrong := api.Type{}
	for range deep {
		wrong = api.Type{Op: api.YImp, Args: types(constant("B"), wrong)}
	}
	if CheckType(x) != api.ErrFull || CheckType(wrong) != api.ErrArg || !SameType(x, x) || SameType(x, wrong) {
		t.Error("types")
	}
	if l, e := Names(x); len(l) != 0 || e != api.ErrFull {
		t.Error(l, e)
	}
	y := number(1)
	for range deep {
		y = api.Expr{Op: api.XLet, Decls: []api.Decl{bound("f", api.Alt{Rhs: rhs(y)})}, Args: exprs(number(1))}
	}
	if CheckExpr(y) != api.ErrFull || !SameExpr(y, y) {
		t.Error("expressions")
	}
	y.N = 1
	if CheckExpr(y) != api.ErrArg {
		t.Error("what is not well built comes first")
	}
}

func TestSameLists(t *testing.T) {
	if !SameType(api.Type{Args: types()}, api.Type{}) || SameType(api.Type{N: 1}, api.Type{}) || SameType(api.Type{Args: types(api.Type{})}, api.Type{}) {
		t.Error("types")
	}
	if !SameExpr(api.Expr{Fields: []string{}, Stmts: []api.Stmt{}}, api.Expr{}) || SameExpr(api.Expr{Stmts: []api.Stmt{{}}}, api.Expr{Stmts: []api.Stmt{{Let: true}}}) {
		t.Error("expressions")
	}
	if !Same(api.Module{Decls: []api.Decl{}}, api.Module{}) || Same(api.Module{All: true}, api.Module{}) || Same(api.Module{Imports: []api.Import{{}}}, api.Module{Imports: []api.Import{{All: true}}}) {
		t.Error("modules")
	}
}

func TestNames(t *testing.T) {
	for source, want := range map[string]string{
		"B":                              "",
		"b -> a -> b":                    "b a",
		"forall a. a -> b":               "b",
		"(forall a. a) -> a -> c":        "a c",
		"a -> forall a. a b":             "a b",
		"forall (a : k). a j":            "k j",
		"forall (a : a). a":              "a", // the kind stands outside of what is bound
		"forall a (b : a). b":            "",
		"forall a. forall a. a":          "",
		"(forall a. (forall a. a) a) a":  "a",
		"c d => (e ~ f) 'G":              "c d e f",
		"forall (a : forall b. b c) . d": "c d",
	} {
		x, _, e := Type(source)
		l, e2 := Names(x)
		if e != api.OK || e2 != api.OK || strings.Join(l, " ") != want {
			t.Errorf("%q: %v %v %v", source, l, e, e2)
		}
	}
}

// TestResultsAreNew changes a result, and reads again.
func TestResultsAreNew(t *testing.T) {
	first := one(t, sample.Example)
	again := one(t, sample.Example)
	first.Decls[1].Cons[1].Type.Args[0].S = "X"
	if !Same(again, one(t, sample.Example)) || Same(first, again) {
		t.Error("memory is shared")
	}
}
