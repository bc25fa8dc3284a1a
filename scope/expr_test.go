package scope

import (
	"slices"
	"strings"
	"testing"

	"damask/api"
)

func fix(name, side string, n int) api.Decl {
	return api.Decl{Op: api.DFix, Name: name, S: side, N: n}
}

func pvar(name string) api.Pat { return api.Pat{Op: api.PVar, S: name} }

func lambda(name string, e api.Expr) api.Expr {
	return api.Expr{Op: api.XLam, Pats: []api.Pat{pvar(name)}, Args: []api.Expr{e}}
}

func ops(fields []string, args ...api.Expr) api.Expr {
	return api.Expr{Op: api.XOps, Fields: fields, Args: args}
}

func binds(name string, e api.Expr) api.Decl {
	return api.Decl{Op: api.DBind, Name: name, Alts: []api.Alt{{Rhs: []api.Guard{{Then: e}}}}}
}

func TestStrength(t *testing.T) {
	operators := strings.Fields("+ - * ++ == ^ $")
	fixes := []api.Decl{fix("+", "infixl", 6), fix("-", "infixl", 6), fix("*", "infixl", 7), fix("++", "infixr", 5), fix("==", "infix", 4), fix("^", "infixr", 9), fix("+", "infix", 0), fix("?", "infix", 3)}
	for source, want := range map[string]string{
		"a + b * c":               "((+ a) ((* b) c))",
		"a * b + c":               "((+ ((* a) b)) c)",
		"a - b + c - d":           "((- ((+ ((- a) b)) c)) d)",
		"a ++ b ++ c":             "((++ a) ((++ b) c))",
		"a ^ b ^ c * d ++ e == f": "((== ((++ ((* ((^ a) ((^ b) c))) d)) e)) f)",
		"a == b + c":              "((== a) ((+ b) c))",
		"a + b ++ c * d ++ e":     "((++ ((+ a) b)) ((++ ((* c) d)) e))",
		"a $ b $ c + d":           "((+ (($ (($ a) b)) c)) d)",
		"(a + b) * (c + d)":       "((* ((+ a) b)) ((+ c) d))",
		"a == (b == c)":           "((== a) ((== b) c))",
		"a ++ \\x -> x + b ++ x":  "((++ a) (\\ x ((++ ((+ x) b)) x)))",
		"x":                       "x",
		"let { infixr 6 +; x + y = x; infixl 6 +; } in a + b + c":               "(let <fix +infixr> <+ [x y = x]> <fix +infixl> ((+ a) ((+ b) c)))",
		"let { infixr 6 +; } in a + b + c":                                      "(let <fix +infixr> ((+ ((+ a) b)) c))",
		"let { infixr 6 +; (+) : T; } in a + b + c":                             "(let <fix +infixr> <sig + : T> ((+ ((+ a) b)) c))",
		"let { x + y = x; } in a + b * c":                                       "(let <+ [x y = x]> ((* ((+ a) b)) c))",
		"let { x ? y = x ? y ? x; } in a ? b":                                   "(let <? [x y = ((? ((? x) y)) x)]> ((? a) b))",
		"let { infix 1 *; x + y = x * y + x; x * y = x + y; } in a":             "(let <fix *infix> <+ [x y = ((* x) ((+ y) x))]> <* [x y = ((+ x) y)]> a)",
		"case a + b of { x | a + b * c -> x where { infix 1 *; x * y = a; }; }": "(case ((+ a) b) [x | ((* ((+ a) b)) c) = x <fix *infix> <* [x y = a]>])",
		"do { x <- a ++ b ++ c; let { x ++ y = x; }; z ++ y ++ x; y; }":         "(do { x <- ((++ a) ((++ b) c))} {let <++ [x y = x]>} { <- ((++ ((++ z) y)) x)} { <- y})",
		"do { }": "(do)",
		"if a + b then x : Int else (\\x y -> x + y) { f = a + b, g = c }": "(if ((+ a) b) (: x Int) (upd f g (\\ x y ((+ x) y)) ((+ a) b) c))",
		"K { f = a + b } (a + b @Int)":                                     "((rec K f ((+ a) b)) ((+ a) (@ b Int)))",
		"do { } + let { } in 1 + 2":                                        "((+ (do)) (let ((+ 1) 2)))",
	} {
		got, e := Strength(operators, fixes, readExpr(t, source))
		if e != api.OK || showExpr(got) != want {
			t.Errorf("%s: %s %v", source, showExpr(got), e)
		}
	}
	for source, want := range map[string]api.Errno{
		"a == b == c": api.ErrForm, "a + b == c + d == e": api.ErrForm, "\\x -> a == b == c": api.ErrForm,
		"let { infixr 6 +; x + y = x; infixl 6 !=; x != y = y; } in a + b != c": api.ErrForm,
		"a ? b": api.ErrName, "a + (b ? c)": api.ErrName, "(let { x ? y = x; } in a) ? b": api.ErrName, "let { infix 1 ?; } in a ? b": api.ErrName,
		"let { (?) : Int; infix 1 ?; } in a ? b": api.ErrName, "do { let { x ? y = 1; }; }": api.OK, "do { x ? y; let { x ? y = 1; }; }": api.ErrName, "let { } in let { x = 1 ? 2; } in let { x ? y = 1; } in 1": api.ErrName,
	} {
		if got, e := Strength(operators, fixes, readExpr(t, source)); e != want || e != api.OK && showExpr(got) != "" {
			t.Errorf("%s: %s %v", source, showExpr(got), e)
		}
	}
	// operators can have any names, and patterns can bind them, too
	any := lambda("!", ops([]string{"!", "plus", "A"}, variable("M.x"), variable("+"), variable("Y"), variable("'")))
	got, e := Strength([]string{"plus", "A", "!"}, []api.Decl{fix("plus", "infixr", 9), fix("A", "infixr", 3), fix("!", "infix", 1)}, any)
	if e != api.ErrForm {
		t.Error(showExpr(got), e)
	}
	got, e = Strength([]string{"plus", "A"}, []api.Decl{fix("plus", "infixr", 8), fix("A", "infixr", 3), fix("!", "infix", 1)}, any)
	if e != api.OK || showExpr(got) != "(\\ ! ((A ((plus ((! M.x) +)) Y)) '))" {
		t.Error(showExpr(got), e)
	}
}

// TestOperatorOfDo: a pattern of a do binds what it binds in the later steps alone.
func TestOperatorOfDo(t *testing.T) {
	step := func(l ...api.Pat) api.Stmt {
		return api.Stmt{Pat: l, Expr: ops([]string{"plus", "plus"}, variable("a"), variable("b"), variable("c"))}
	}
	do := api.Expr{Op: api.XDo, Stmts: []api.Stmt{step(pvar("plus")), step()}}
	got, e := Strength([]string{"plus"}, []api.Decl{fix("plus", "infixr", 3)}, do)
	if e != api.OK || showExpr(got) != "(do { plus <- ((plus a) ((plus b) c))} { <- ((plus ((plus a) b)) c)})" {
		t.Error(showExpr(got), e)
	}
	if _, e := Strength(nil, nil, do); e != api.ErrName {
		t.Error(e)
	}
	do.Stmts[0].Expr = variable("x")
	if _, e := Strength(nil, nil, do); e != api.OK {
		t.Error(e)
	}
}

// TestAnyNames: where names may be any strings that are not empty, all else must be as ever.
func TestAnyNames(t *testing.T) {
	con := func(s string) api.Type { return api.Type{Op: api.YCon, S: s} }
	app := func(f, a api.Type) api.Type { return api.Type{Op: api.YApp, Args: []api.Type{f, a}} }
	sig := func(t api.Type) api.Decl { return api.Decl{Op: api.DSig, Name: "M.x", Type: t} }
	deep := con("A")
	for range 40 {
		deep = app(deep, con("A"))
	}
	one := api.Expr{Op: api.XInt}
	for i, c := range []struct {
		d []api.Decl
		e api.Errno
	}{
		{[]api.Decl{sig(con("'M.C")), sig(con("1")), sig(api.Type{Op: api.YName, S: "A"}), sig(api.Type{Op: api.YAll, S: "+", Args: []api.Type{con("a"), con("~~")}})}, api.OK},
		{[]api.Decl{sig(con(""))}, api.ErrArg}, {[]api.Decl{sig(con("~"))}, api.ErrArg}, {[]api.Decl{sig(app(con("~"), con("A")))}, api.ErrArg}, {[]api.Decl{sig(app(app(con("~"), con("A")), con("A")))}, api.OK},
		{[]api.Decl{sig(api.Type{Op: api.YVar})}, api.ErrArg}, {[]api.Decl{sig(api.Type{Op: api.YAll, Args: []api.Type{con("A"), con("A")}})}, api.ErrArg},
		{[]api.Decl{{Op: api.DSig, Type: con("A")}}, api.ErrArg}, {[]api.Decl{{Op: api.DSig, Name: "x"}}, api.ErrArg}, {[]api.Decl{{}}, api.ErrArg},
		{[]api.Decl{binds("M.x", one), binds("x", one), binds("M.x", one)}, api.OK},
		{[]api.Decl{binds("M.x", one), binds("M.x", one)}, api.ErrArg}, {[]api.Decl{binds("x", one), binds("M.x", one), binds("M.x", one)}, api.ErrArg}, {[]api.Decl{binds("z", one), binds("y", one), binds("x", one), binds("x", one)}, api.ErrArg},
		{[]api.Decl{binds("", one)}, api.ErrArg}, {[]api.Decl{binds("x", variable(""))}, api.ErrArg}, {[]api.Decl{binds("x", lambda("", one))}, api.ErrArg}, {[]api.Decl{{Op: api.DBind, Name: "x"}}, api.ErrArg},
		{[]api.Decl{binds("Q", api.Expr{Op: api.XCon, S: "M.C"}), binds("=", api.Expr{Op: api.XRec, S: "x", Fields: []string{"M.f"}, Args: []api.Expr{one}}), binds("1", api.Expr{Op: api.XUpd, Fields: []string{"+"}, Args: []api.Expr{one, one}})}, api.OK},
		{[]api.Decl{binds("x", api.Expr{Op: api.XCon})}, api.ErrArg}, {[]api.Decl{binds("x", api.Expr{Op: api.XRec, S: "x", Fields: []string{""}, Args: []api.Expr{one}})}, api.ErrArg}, {[]api.Decl{binds("x", ops([]string{""}, one, one))}, api.ErrArg}, {[]api.Decl{binds("x", ops([]string{"+"}, one))}, api.ErrArg},
		{[]api.Decl{binds("x", api.Expr{Op: api.XLam, Pats: []api.Pat{{Op: api.PCon, S: "x"}, {Op: api.PAs, S: "X", Args: []api.Pat{{Op: api.PWild}}}}, Args: []api.Expr{one}})}, api.OK},
		{[]api.Decl{binds("x", api.Expr{Op: api.XLam, Pats: []api.Pat{{Op: api.PWild, S: "x"}}, Args: []api.Expr{one}})}, api.ErrArg}, {[]api.Decl{binds("x", api.Expr{Op: api.XLam, Pats: []api.Pat{{Op: api.PCon}}, Args: []api.Expr{one}})}, api.ErrArg},
		{[]api.Decl{binds("x", api.Expr{Op: api.XInt, N: -1})}, api.ErrArg}, {[]api.Decl{binds("x", api.Expr{Op: api.XInt, S: "x"})}, api.ErrArg},
		{[]api.Decl{fix("plus", "infix", 3), fix("+", "infix", 3)}, api.OK}, {[]api.Decl{fix("", "infix", 3)}, api.ErrArg}, {[]api.Decl{fix("+", "inffix", 3)}, api.ErrArg}, {[]api.Decl{fix("+", "infix", 10)}, api.ErrArg},
		{[]api.Decl{{Op: api.DData, Name: "x", Type: con("A"), Deriving: []string{"x"}, Cons: []api.Con{{Name: "x", Type: app(app(con("->"), con("A")), con("A")), Fields: []string{"X"}}}}}, api.OK},
		{[]api.Decl{{Op: api.DData, Name: "x", Type: con("A"), Cons: []api.Con{{Name: "x", Type: app(app(con("-->"), con("A")), con("A")), Fields: []string{"X"}}}}}, api.ErrArg},
		{[]api.Decl{{Op: api.DData, Name: "x", Type: con("A"), Cons: []api.Con{{Type: con("A")}}}}, api.ErrArg}, {[]api.Decl{{Op: api.DData, Type: con("A")}}, api.ErrArg}, {[]api.Decl{{Op: api.DData, Name: "T", Type: con("A"), Deriving: []string{""}}}, api.ErrArg},
		{[]api.Decl{{Op: api.DFamily, Name: "x", Type: con("x"), Eqs: []api.Eq{{Left: con("x"), Right: con("x")}}}}, api.OK}, {[]api.Decl{{Op: api.DFamily, Name: "x", Type: con("x"), Eqs: []api.Eq{{Left: con("x")}}}}, api.ErrArg},
		{[]api.Decl{{Op: api.DClass, Name: "x", Vars: []api.Binder{{Name: "X", Kind: con("x")}}, Context: []api.Type{con("x")}, Deps: []api.Dep{{From: []string{"+"}, To: []string{"X"}}}, Sigs: []api.Sig{{Name: "X", Type: con("x")}}}}, api.OK},
		{[]api.Decl{{Op: api.DClass, Name: "x", Vars: []api.Binder{{Kind: con("x")}}}}, api.ErrArg}, {[]api.Decl{{Op: api.DClass, Name: "x", Deps: []api.Dep{{From: []string{"+"}, To: []string{""}}}}}, api.ErrArg}, {[]api.Decl{{Op: api.DClass, Name: "x", Sigs: []api.Sig{{Type: con("x")}}}}, api.ErrArg},
		{[]api.Decl{{Op: api.DInst, Type: con("x"), Decls: []api.Decl{binds("M.m", one), binds("m", one)}}}, api.OK}, {[]api.Decl{{Op: api.DInst, Type: con("x"), Decls: []api.Decl{binds("M.m", one), binds("M.m", one)}}}, api.ErrArg}, {[]api.Decl{{Op: api.DInst, Type: con("x"), Decls: []api.Decl{sig(con("x"))}}}, api.ErrArg},
		{[]api.Decl{sig(deep)}, api.ErrFull}, {[]api.Decl{sig(deep), {}}, api.ErrArg}, {slices.Repeat([]api.Decl{sig(con("A"))}, 120), api.OK}, {slices.Repeat([]api.Decl{sig(con("A"))}, 121), api.ErrFull},
	} {
		l, e := Groups(c.d)
		if e != c.e || e != api.OK && len(l) > 0 {
			t.Error(i, e, l)
		}
		if len(c.d) > 100 || c.d[0].Op < api.DSig {
			continue
		}
		let := api.Expr{Op: api.XLet, Decls: c.d, Args: []api.Expr{one}}
		if _, e := Free(let); e != c.e {
			t.Error("Free:", i, e)
		}
		if _, e := Strength([]string{"+", "plus"}, nil, let); e != c.e {
			t.Error("Strength:", i, e)
		}
	}
}

// TestBadArguments: what is wrong in the fixes comes with what is wrong in the expression, before what is too large.
func TestBadArguments(t *testing.T) {
	small, large := variable("x"), variable("x")
	for range 40 {
		large = lambda("y", large)
	}
	for i, c := range []struct {
		fix api.Decl
		x   api.Expr
		e   api.Errno
	}{
		{fix("+", "infix", 1), large, api.ErrFull}, {fix("+", "infix", -1), large, api.ErrArg}, {fix("+", "", 1), small, api.ErrArg}, {fix("", "infix", 1), small, api.ErrArg}, {fix("plus", "infix", 1), small, api.OK},
		{binds("+", small), small, api.ErrArg}, {api.Decl{}, small, api.ErrArg}, {api.Decl{Op: api.DFix, Name: "+", S: "infix", Deriving: []string{"A"}}, small, api.ErrArg},
		{fix("+", "infix", 1), api.Expr{}, api.ErrArg},
	} {
		if _, e := Strength([]string{""}, []api.Decl{fix("-", "infix", 1), c.fix}, c.x); e != c.e {
			t.Error(i, e)
		}
	}
	if _, e := Strength(nil, slices.Repeat([]api.Decl{fix("-", "infix", 1)}, 500), small); e != api.OK {
		t.Error("many fixes:", e)
	}
	if l, e := Free(large); e != api.ErrFull || len(l) > 0 {
		t.Error(l, e)
	}
	if l, e := Free(api.Expr{}); e != api.ErrArg || len(l) > 0 {
		t.Error(l, e)
	}
	deep := variable("x")
	for range 1 << 16 {
		deep = api.Expr{Op: api.XLet, Decls: []api.Decl{binds("y", deep)}, Args: []api.Expr{variable("z")}}
	}
	if _, e := Free(deep); e != api.ErrFull {
		t.Error(e)
	}
}

func TestFree(t *testing.T) {
	for source, want := range map[string]string{
		"x": "x", "K": "", "5": "", "f x y f": "f x y", "(+)": "+", "a + b ++ a": "+ ++ a b", "x @a : b": "x",
		"\\x y@(K z) -> x y z w": "w", "(\\x -> x) x": "x",
		"let { x = y; f x z = z x w; } in f x y v": "v w y", "let { x = x; } in y": "y", "let { x : Int; } in x": "x", "let { infix 3 +; } in x": "x", "let { x + y = x; } in a + b": "a b",
		"case x of { x -> x; K y z | y -> a | b -> x where { a = y; x = a c; }; }": "b c x", "case x of { y -> 1; z -> y; }": "x y",
		"if a then b else c": "a b c", "K { f = x }": "x", "x { f = y, g = z }": "x y z",
		"do { x; }": "x", "do { x; y; }": "bind x y", "do { let { x = y; }; x; }": "y", "do { x <- y; x; }": "bind y", "do { bind <- x; y; z; }": "bind x y z", "do { let { bind = x; }; y; z; }": "x y z",
		"do { x <- x; }": "bind x", "do { }": "", "do { let { x = z; }; }": "z", "do { x <- y; let { z = x; }; }": "bind y", "\\bind -> do { x; y; }": "x y", "do { do { x; }; }": "x", "do { do { x; }; y; }": "bind x y",
	} {
		got, e := Free(readExpr(t, source))
		if e != api.OK || strings.Join(got, " ") != want {
			t.Errorf("%s: %v %v", source, got, e)
		}
	}
	got, e := Free(lambda("M.x", ops([]string{"A", "M.x"}, variable("M.x"), variable("M.y"), variable("'"))))
	if e != api.OK || strings.Join(got, " ") != "' A M.y" {
		t.Error(got, e)
	}
}

func TestGroups(t *testing.T) {
	for source, want := range map[string][][]int{
		"":                                            nil,
		"f x = g x; g : Int -> Int; g y = f y;":       {{0}, {2}},
		"g y = f y; g : Int -> Int; f x = g x;":       {{2}, {0}},
		"f = g; g = f;":                               {{0, 1}},
		"a = b; b = c; c = b; d = a; e = e;":          {{1, 2}, {0}, {3}, {4}},
		"a = d; b = 1; c = a; d = 1;":                 {{1}, {3}, {0}, {2}},
		"a = f; b = e; c = 1; d = c; e = b d; f = 1;": {{2}, {3}, {1, 4}, {5}, {0}},
		"a : Int; data T : Type { }; a = b; infixl 3 +; b = a; class C { c : Int; }; c = d; d x = (\\c -> c) a; x + y = b; e = 1 + 2;": {{4}, {2}, {7}, {6}, {8}, {9}},
		"f = \\g -> g; g = f;":                           {{0}, {1}},
		"f x = 1 where { g = h; }; h = g; g = f;":        {{0, 1, 2}},
		"f x = 1 where { g = h; h = 1; }; h = g; g = f;": {{0}, {2}, {1}},
		"f = do { x; y; }; bind = f; x = 1;":             {{2}, {0, 1}},
		"x + y = x; f = 1 + 2; (-) = f;":                 {{0}, {1}, {2}},
	} {
		got, e := Groups(read(t, "module M { "+source+" }")[0].Decls)
		if e != api.OK || !slices.EqualFunc(got, want, slices.Equal) {
			t.Errorf("%s: %v %v", source, got, e)
		}
	}
	// one that is there twice is reached at both places
	twice := []api.Decl{binds("M.b", variable("M.a")), binds("M.a", variable("c")), binds("M.c", variable("M.a")), binds("M.a", variable("M.b"))}
	if got, e := Groups(twice); e != api.OK || !slices.EqualFunc(got, [][]int{{1}, {0, 3}, {2}}, slices.Equal) {
		t.Error(got, e)
	}
}
