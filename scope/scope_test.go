package scope

import (
	"slices"
	"strings"
	"testing"

	"damask/api"
	"damask/internal/sample"
)

// numbered returns that many modules, each without declarations.
func numbered(n int) []api.Module {
	var l []api.Module
	for i := range n {
		l = append(l, api.Module{Name: string(rune('A' + i)), All: true})
	}
	return l
}

// badModules are what every function refuses first of all.
func badModules() map[string]struct {
	l []api.Module
	e api.Errno
} {
	deep := api.Type{Op: api.YCon, S: "A"}
	for range 40 {
		deep = api.Type{Op: api.YApp, Args: []api.Type{deep, {Op: api.YCon, S: "A"}}}
	}
	large := api.Module{Name: "L", All: true, Decls: []api.Decl{{Op: api.DSig, Name: "x", Type: deep}}}
	type bad = struct {
		l []api.Module
		e api.Errno
	}
	return map[string]bad{
		"not well built":                     {[]api.Module{{Name: "m", All: true}}, api.ErrArg},
		"not well built behind one of two":   {[]api.Module{{Name: "A", All: true}, {Name: "A", All: true}, {}}, api.ErrArg},
		"not small":                          {[]api.Module{large}, api.ErrFull},
		"not small, and of one name":         {[]api.Module{large, large}, api.ErrFull},
		"not small, then not well built":     {[]api.Module{large, {}}, api.ErrArg},
		"seven":                              {numbered(7), api.ErrFull},
		"seven of one name":                  {slices.Repeat(numbered(1), 7), api.ErrFull},
		"seven, and one is not well built":   {append(numbered(7), api.Module{}), api.ErrArg},
		"two of one name":                    {slices.Repeat(numbered(1), 2), api.ErrTwice},
		"two of one name, an unknown import": {[]api.Module{{Name: "A", All: true, Imports: []api.Import{{Module: "C", All: true}}}, {Name: "A", All: true}}, api.ErrTwice},
	}
}

func TestBadModules(t *testing.T) {
	for name, c := range badModules() {
		order, e := Order(c.l)
		types, values, e2 := Exports(c.l, 99)
		p, e3 := Resolve(c.l)
		if e != c.e || e2 != c.e || e3 != c.e || len(order)+len(types)+len(values)+len(p.Decls)+len(p.Groups) > 0 {
			t.Error(name, e, e2, e3)
		}
	}
}

func TestOrder(t *testing.T) {
	for _, c := range []struct {
		source string
		want   []int
		e      api.Errno
	}{
		{"", nil, api.OK},
		{"module A { }", []int{0}, api.OK},
		{"module A { } module B { } module C { }", []int{0, 1, 2}, api.OK},
		{"module A { import B; } module B { import C; } module C { }", []int{2, 1, 0}, api.OK},
		{"module A { import C; } module B { } module C { } module D { }", []int{1, 2, 0, 3}, api.OK},
		{"module A { import E; } module B { import A; } module C { } module D { import C; } module E { }", []int{2, 3, 4, 0, 1}, api.OK},
		{"module A { import B; import B; import B (x); } module B { }", []int{1, 0}, api.OK},
		{"module A { } module A { }", nil, api.ErrTwice},
		{"module A { import B; }", nil, api.ErrName},
		{"module A { import A; }", nil, api.ErrRing},
		{"module A { import B; } module B { import C; } module C { import A; } module D { }", nil, api.ErrRing},
		{"module A { import B; } module B { import A; } module C { import D; }", nil, api.ErrName},
	} {
		got, e := Order(read(t, c.source))
		if e != c.e || !slices.Equal(got, c.want) {
			t.Errorf("%s: %v %v", c.source, got, e)
		}
		if _, e := Resolve(read(t, c.source)); e != c.e && c.e != api.OK {
			t.Errorf("%s: %v", c.source, e)
		}
		if _, _, e := Exports(read(t, c.source), 0); e != c.e && c.e != api.OK {
			t.Errorf("%s: %v", c.source, e)
		}
	}
	if l, e := Order(numbered(6)); e != api.OK || len(l) != 6 {
		t.Error(l, e)
	}
}

func TestExports(t *testing.T) {
	const all = "data T : Type { K : { x : Int, y : Int } -> T; L : { y : Int } -> T; }; newtype N : Type { N : T -> N; };" +
		"family F : Type { }; class C (a) { m : a; (+) : a; }; f : Int; f = 1; g = f; infixl 5 +; instance C Int { m = 1; };"
	for _, c := range []struct {
		source        string
		types, values string
		e             api.Errno
	}{
		{"module M { " + all + " }", "C F N T", "+ K L N f g m x y", api.OK},
		{"module M (N, (+), y, F, y) { " + all + " }", "F N", "+ N y", api.OK},
		{"module M () { " + all + " }", "", "", api.OK},
		{"module M (z) { " + all + " }", "", "", api.ErrExport},
		{"module M (Int) { " + all + " }", "", "", api.ErrExport},
		{"module M (z) { f = 1; g = 1; f = 1; }", "", "", api.ErrTwice},
		{"module M (b) { import N; a = 1; } module N { b = 1; }", "", "", api.ErrExport},
		{"module M { b = 1; } module N { b = 1; b : Int; b : Int; }", "", "b", api.OK},
		{"module M { f = 1; f : Int; }", "", "f", api.OK},
		{"module M { data True : Type { Type : True; }; family Eq : Type { }; class K { }; data L : Type { K : L; }; }", "Eq K L True", "K Type", api.OK},
		{"module M { data T : Type { K : { x : Int } -> T; }; newtype U : Type { L : { x : Int } -> U; }; }", "", "", api.ErrTwice},
		{"module M { data T : Type { K : { x : Int } -> T; }; x = 1; }", "", "", api.ErrTwice},
		{"module M { data T : Type { K : { x : Int, x : Int } -> T; }; }", "T", "K x", api.OK}, // this is for layer 8
		{"module M { x : Int; x : Int; x = 1; }", "", "", api.ErrTwice},
		{"module M { x = 1; x : Int; x = 1; }", "", "", api.ErrTwice},
		{"module M { x = 1; y = 1; x = 1; }", "", "", api.ErrTwice},
		{"module M { class C (a) { x : a; }; x = 1; }", "", "", api.ErrTwice},
		{"module M { x : Int; class C (a) { x : a; }; }", "", "", api.ErrTwice},
		{"module M { class C (a) { x : a; x : a; }; }", "", "", api.ErrTwice},
		{"module M { data T : Type { K : T; K : T; }; }", "", "", api.ErrTwice},
		{"module M { data T : Type { K : T; }; newtype U : Type { K : T -> U; }; }", "", "", api.ErrTwice},
		{"module M { data T : Type { }; family T : Type { }; }", "", "", api.ErrTwice},
		{"module M { data T : Type { }; class T (a) { }; }", "", "", api.ErrTwice},
		{"module M { data Int : Type { }; }", "", "", api.ErrTwice},
		{"module M { class Constraint { }; }", "", "", api.ErrTwice},
		{"module M { data T : Type { False : T; }; }", "", "", api.ErrTwice},
		{"module M { add = 1; }", "", "", api.ErrTwice},
		{"module M { retry : Int; }", "", "", api.ErrTwice},
		{"module M { class C { put : Int; }; }", "", "", api.ErrTwice},
		{"module M { data T : Type { K : { seq : Int } -> T; }; }", "", "", api.ErrTwice},
	} {
		types, values, e := Exports(read(t, c.source), 0)
		if e != c.e || strings.Join(types, " ") != c.types || strings.Join(values, " ") != c.values {
			t.Errorf("%s: %v %v %v", c.source, types, values, e)
		}
	}
	for _, n := range []int{-1, 2, 1 << 40, -1 << 63} {
		if _, _, e := Exports(read(t, "module M { x = 1; x : Int; x : Int; } module N { }"), n); e != api.ErrNone {
			t.Error(n, e)
		}
	}
	if _, _, e := Exports(nil, 0); e != api.ErrNone {
		t.Error(e)
	}
}

func TestBuiltin(t *testing.T) {
	types, values := Builtin()
	if strings.Join(types, " ") != "-> Bool Constraint IO Int STM TVar Type Unit ~" {
		t.Error(types)
	}
	if strings.Join(values, " ") != "False True Unit add atomically bindIO bindSTM catch div eq fork get kill le lt mask mod mul newTVar orElse put readTVar retry returnIO returnSTM seq sub throw writeTVar yield" {
		t.Error(values)
	}
	types[0], values[0] = "", ""
	if again, _ := Builtin(); again[0] != "->" {
		t.Error("kept")
	}
}

// TestResolve holds programs against all that is in their declarations.
func TestResolve(t *testing.T) {
	for _, c := range []struct {
		source string
		want   []string
	}{
		{"", nil},
		// names, of several modules
		{"module A { import B; import C (U, c); a = b c K; x : U -> T; x = x; } module B { data T : Type { K : T; }; b = K; } module C (U, c) { data U : Type { K : U; }; c = 1; b = 2; }",
			[]string{"<data B.T : Type {B.K : B.T}>", "<B.b [= B.K]>", "<data C.U : Type {C.K : C.U}>", "<C.c [= 1]>", "<C.b [= 2]>", "<A.a [= ((B.b C.c) B.K)]>", "<sig A.x : ((-> C.U) B.T)>", "<A.x [= A.x]>"}},
		{"module A { import B; import B (b); x = b; } module B { b = 1; }", []string{"<B.b [= 1]>", "<A.x [= B.b]>"}},
		{"module M { data N : Type { Z : N; }; x : T 'Z 'True; x = case Z of { True -> add; Z -> x; }; data T : N -> Bool -> Type deriving (C, C) { }; class C { }; }",
			[]string{"<data M.N : Type {M.Z : M.N}>", "<sig M.x : ((M.T 'M.Z) 'True)>", "<M.x [= (case M.Z [(True) = add] [(M.Z) = M.x])]>", "<data M.T : ((-> M.N) ((-> Bool) Type)) deriving M.C deriving M.C>", "<class M.C>"}},
		{"module M { newtype P : Type { P : { px : Int, py : Int } -> P; }; f x = P { px = x, add = px } { py = \\px -> px }; }",
			[]string{"<new M.P : Type {M.P : ((-> Int) ((-> Int) M.P)) M.px M.py}>", "<M.f [x = (upd M.py (rec M.P M.px add x M.px) (\\ px px))]>"}},
		// what is bound
		{"module M { x = 1; f x y@(True) = x y g where { g = h x; h x = x; }; g = f g; }",
			[]string{"<M.x [= 1]>", "<M.f [x (y@ (True)) = ((x y) g) <g [= (h x)]> <h [x = x]>]>", "<M.g [= (M.f M.g)]>"}},
		{"module M { x = let { x = y; y = x; add = 1; } in \\y -> case y add of { x -> x; y | x -> z where { z = y; }; _ -> x; }; }",
			[]string{"<M.x [= (let <x [= y]> <y [= x]> <add [= 1]> (\\ y (case (y add) [x = x] [y | x = z <z [= y]>] [_ = x])))]>"}},
		{"module M { f !x ~(True) 5 | x = 1 | f = x where { f = x; }; f y z a = if f then y else z; }",
			[]string{"<M.f [(! x) (~ (True)) 5 | x = 1 | f = x <f [= x]>] [y z a = (if M.f y z)]>"}},
		// types
		{"module M { id : a -> a; id x = x; k : a -> (forall (b : c). b) -> c; k = k; }",
			[]string{"<sig M.id : (all :Type ((-> #0) #0))>", "<M.id [x = x]>", "<sig M.k : (all :Type (all :Type ((-> #1) ((-> (all b:#0 #0)) #0))))>", "<M.k [= M.k]>"}},
		{"module M { f : forall a (b : a). b -> forall a. a -> b; f = (f : b -> c); }",
			[]string{"<sig M.f : (all a:Type (all b:#0 ((-> #0) (all a:Type ((-> #0) #1)))))>", "<M.f [= (: M.f (all :Type ((-> b) #0)))]>"}},
		{"module M { f : forall a. a -> b; f = (f : a -> b) @a; }",
			[]string{"<sig M.f : (all :Type (all a:Type ((-> #0) #1)))>", "<M.f [= (@ (: M.f (all :Type ((-> a) #0))) a)]>"}},
		{"module M { f : Int => forall a. a; f = (f : a); g : forall a. Int => forall b. a; g = (f : a -> b); }",
			[]string{"<sig M.f : (Int => (all a:Type #0))>", "<M.f [= (: M.f (all :Type #0))]>", "<sig M.g : (all a:Type (Int => (all b:Type #1)))>", "<M.g [= (: M.f (all :Type ((-> a) #0)))]>"}},
		{"module M { f : forall a. a; f = let { g : forall b. a -> b; g = h @a @b; h : a -> c; h = (g : b); } in g @a; }",
			[]string{"<sig M.f : (all a:Type #0)>", "<M.f [= (let <sig g : (all b:Type ((-> a) #0))> <g [= (@ (@ h a) b)]> <sig h : (all :Type ((-> a) #0))> <h [= (: g (all :Type #0))]> (@ g a))]>"}},
		{"module M { x = ((\\y -> (y : a) @a) : forall a (b : a). c -> a) : a; }",
			[]string{"<M.x [= (: (: (\\ y (@ (: y a) a)) (all :Type (all a:Type (all b:#0 ((-> #2) #1))))) (all :Type #0))]>"}},
		{"module M { x = 1 where { y : forall a. a; y = z where { z = z @a; }; }; }",
			[]string{"<M.x [= 1 <sig y : (all a:Type #0)> <y [= z <z [= (@ z a)]>]>]>"}},
		{"module M { data T : forall (k : Type). k -> Type { A : T a; B : forall (a : b). { x : a, y : c } -> T a; }; }",
			[]string{"<data M.T : (all k:Type ((-> #0) Type)) {M.A : (all :Type (M.T #0))} {M.B : (all :Type (all :Type (all a:#1 ((-> #0) ((-> #1) (M.T #0)))))) M.x M.y}>"}},
		{"module M { family F : Type -> Type { F (G a b) = a -> F b -> (forall a. a); F (forall c. c b) = b; }; data G : Type { }; }",
			[]string{"<family M.F : ((-> Type) Type) {(M.F ((M.G a) b)) = ((-> a) ((-> (M.F b)) (all a:Type #0)))} {(M.F (all c:Type (#0 b))) = b}>", "<data M.G : Type>"}},
		{"module M { class (Int ~ a) => D b => C (a) (b : Type -> Type) | a -> b, b c -> d { m : a -> c -> (forall a. a b); (+) : forall (d : b). a; }; class D (a) { }; }",
			[]string{"<class M.C (a:Type) (b:((-> Type) Type)) [((~ Int) a)] [(M.D b)] <a->b> <b c->d> {M.m : (all :Type ((-> a) ((-> #0) (all a:Type (#0 b)))))} {M.+ : (all d:b a)}>", "<class M.D (a:Type)>"}},
		{"module M { class C (a) { m : a; n : a; }; instance C (T a b) { }; instance forall a. D b => C a { n = m @a; add x = (x : b -> a); }; class D (a) { }; data T : Type { }; }",
			[]string{"<class M.C (a:Type) {M.m : a} {M.n : a}>", "<instance : (all :Type (all :Type (M.C ((M.T #1) #0))))>",
				"<instance : (all :Type (all a:Type ((M.D #1) => (M.C #0)))) <M.n [= (@ M.m a)]> <add [x = (: x (all :Type ((-> #0) a)))]>>", "<class M.D (a:Type)>", "<data M.T : Type>"}},
		// operators
		{"module M { infixl 6 +; infixl 7 *; a + b = a; a * b = b; x = x + x * x + x; y = x + (x + x) * x; }",
			[]string{"<M.+ [a b = a]>", "<M.* [a b = b]>", "<M.x [= ((M.+ ((M.+ M.x) ((M.* M.x) M.x))) M.x)]>", "<M.y [= ((M.+ M.x) ((M.* ((M.+ M.x) M.x)) M.x))]>"}},
		{"module A { import B; x = x + x ++ x - x == x; infix 4 ==; (==) = x; } module B { infixl 6 +; infixr 5 ++; class C { (+) : Int; }; (++) = (+); (-) : Int; (-) = (+); }",
			[]string{"<class B.C {B.+ : Int}>", "<B.++ [= B.+]>", "<sig B.- : Int>", "<B.- [= B.+]>", "<A.x [= ((A.== ((B.++ ((B.+ A.x) A.x)) ((B.- A.x) A.x))) A.x)]>", "<A.== [= A.x]>"}},
		{"module M { infixr 5 +; a + b = a; f = let { (+) = f; infixl 3 *; a * b = a; } in f + f * f + f; g (x) = x + x + x where { infixl 1 +; x + y = x; x : Int; x = 1; }; }",
			[]string{"<M.+ [a b = a]>", "<M.f [= (let <+ [= M.f]> <* [a b = a]> ((* ((+ M.f) M.f)) ((+ M.f) M.f)))]>", "<M.g [x = ((+ ((+ x) x)) x) <+ [x y = x]> <sig x : Int> <x [= 1]>]>"}},
		// a do
		{"module M { bind = bindIO; x = do { True <- get; y; let { y = bind; infix 3 +; a + b = b; }; bind@_ <- y + y; z <- bind y; z; }; y = do { y; }; }",
			[]string{"<M.bind [= bindIO]>", "<M.x [= ((M.bind get) (\\ (True) ((M.bind M.y) (\\ _ (let <y [= M.bind]> <+ [a b = b]> ((M.bind ((+ y) y)) (\\ (bind@ _) ((bind (bind y)) (\\ z z)))))))))]>", "<M.y [= M.y]>"}},
		{"module M { x = do { let { }; do { 1; }; }; f bind = do { x; x; }; }", []string{"<M.x [= (let 1)]>", "<M.f [bind = ((bind M.x) (\\ _ M.x))]>"}},
	} {
		p, e := Resolve(read(t, c.source))
		var got []string
		for _, d := range p.Decls {
			got = append(got, showDecl(d))
		}
		if e != api.OK || !slices.Equal(got, c.want) {
			t.Errorf("%s: %v\n%s\nwant\n%s", c.source, e, strings.Join(got, "\n"), strings.Join(c.want, "\n"))
		}
	}
}

// TestExample resolves the example of DOC.md.
func TestExample(t *testing.T) {
	p, e := Resolve(read(t, sample.Example))
	if e != api.OK || len(p.Decls) != 21 {
		t.Fatal(len(p.Decls), e)
	}
	for i, want := range map[int]string{
		10: "<instance : (all a:Type ((Main.Eq #0) => ((Main.Collect (Main.List #0)) #0))) <Main.insert [= Main.Cons]>>",
		12: "<Main.++ [(Main.Nil) ys = ys] [(Main.Cons x xs) ys = ((Main.Cons x) ((Main.++ xs) ys))]>",
		18: "<Main.twice [f | (f True) = (f 1) | True = 0]>",
		20: "<Main.main [= ((bindIO (returnIO 5)) (\\ x (put (let <y [= ((add x) 1)]> (case y [6 = y] [_ = 0])))))]>",
	} {
		if got := showDecl(p.Decls[i]); got != want {
			t.Error(i, got)
		}
	}
	if !slices.EqualFunc(p.Groups, [][]int{{12}, {14}, {16}, {18}, {20}}, slices.Equal) {
		t.Error(p.Groups)
	}
}

// TestResolveErrors has the error of each input; what stands in braces alone is a module M.
func TestResolveErrors(t *testing.T) {
	for e, sources := range map[api.Errno][]string{
		api.ErrTwice: {
			"{ f x x = 1; }", "{ f x (True) x@_ = 1; }", "{ f x@x = 1; }", "{ f (True x) !x = 1; }", "{ f = \\x ~x -> 1; }", "{ x + x = 1; }",
			"{ f = case 1 of { True x x -> 1; }; }", "{ bind = 1; f = do { True x x <- 1; 2; }; }",
			"{ f = let { x = 1; y = 1; x = 1; } in 1; }", "{ f = let { x : Int; x = 1; x : Int; } in 1; }", "{ f = 1 where { x = 1; y = 2; x = 3; }; }",
			"{ f = let { x + y = x; infix 1 +; infix 1 +; } in 1; }", "{ f = do { let { x = 1; y = 2; x = 3; }; 1; }; }",
			"{ class C { m : Int; n : Int; }; instance C { m = 1; n = 1; m = 1; }; }",
			"{ infixl 1 +; infixr 2 +; x + y = x; }",
			"{ x = 1; x : Int; x : Int; }", "{ data Int : Type { }; x = y; }",
			"module M { import N; import O; } module N { x = 1; } module O { x = 2; }",
			"module M { import N; import O; } module N { data T : Type { }; } module O { class T { }; }",
			"module M { import N; x = 1; } module N { x = 1; }", "module M { import N; data T : Type { }; } module N { family T : Type { }; }",
			"{ x = 1; y = 2; x = 3; }",
			"module M { import N; x = 1; infix 3 +; } module N { x = 2; }",
		},
		api.ErrName: {
			"{ x = y; }", "{ x = Y; }", "{ x = Int; }", "{ f (K x) = 1; }", "{ f = 1 + 2; }", "{ f = True { x = 1 }; }", "{ f = 1 { x = 2 }; }", "{ f = K { f = 1 }; }",
			"{ x : T; x = 1; }", "{ x : 'T; x = 1; }", "{ x : 'Int; x = 1; }", "{ x : True; x = 1; }", "{ x = (1 : T); }", "{ x = x @T; }", "{ x = x @a; }", "{ f = (1 : a) @a; }",
			"{ f : a; f = f @a; }", "{ f : Int -> forall a. a; f = f @a; }", "{ f : forall a. a; f = 1; g = f @a; }", "{ f = let { g : forall a. a; g = 1; } in g @a; }",
			"{ data T : a { }; }", "{ data T : forall (a : b). a { }; }", "{ newtype T : Type -> a { }; }", "{ family F : a { }; }", "{ family F : Type { F a = b; }; }", "{ family F : Type { G a = b; }; }", "{ family F : Type -> Type { F (forall a. a) = a; }; }",
			"{ class C (a : b) { }; }", "{ class C (a) (b : a) { }; }", "{ class D b => C (a) { }; class D (a) { }; }", "{ class D a => C (a) { }; }",
			"{ data T : Type deriving (C) { }; }", "{ data T : Type { K : U; }; }", "{ data T : Type deriving (K) { K : T; }; }",
			"{ instance C { }; }", "{ class C (a) { }; instance C T { }; }", "{ class C { m : Int; }; instance C { n = 1; }; }",
			"{ class C (a) { m : a; }; instance C (F b) { m = m @b; }; data F : Type { }; }", "{ class C (a) { m : a; }; x = x @a; }",
			"{ x : Int; }", "{ x = 1 where { y : Int; }; }", "{ x = let { y : Int; } in 1; }", "{ x = let { infix 1 +; } in 1; }", "{ x + y = x; z = let { infix 1 +; } in 1; }", "{ f x = let { infix 1 +; (+) : Int; } in 1; }",
			"{ infix 1 +; }", "{ infix 1 +; infix 1 +; }", "{ infix 1 +; infix 2 -; infix 3 -; x - y = x; }", "module M { import N; infix 1 +; } module N { x + y = x; }",
			"module M { import N (x); z = y; } module N { x = 1; y = 1; }", "module M { import N; z = y; } module N (x) { x = 1; y = 1; }", "module M { import N; z = y; } module N { import O; } module O { y = 1; }",
			"{ x = do { 1; 2; }; }", "{ x = do { y <- 1; 2; }; }", "{ x = do { bind <- 1; 2; }; }", "{ x = do { y <- y; 2; }; bind = 1; }",
			"{ x = case 1 of { y -> 1; _ -> y; }; }", "{ f x = 1; f y = x; }", "{ f y = 1 where { x = 1; }; f z = x; }", "{ f = (let { x = 1; } in 1) x; }", "{ f = let { x = y where { y = 1; }; } in y; }",
		},
		api.ErrForm: {
			"{ x = do { }; }", "{ x = do { y <- 1; }; }", "{ x = do { 1; let { }; }; }", "{ x = do { let { }; }; }",
			"{ f 0 = 1; f x y = 2; }", "{ f = 1; f = 2; }", "{ f x = 1; f = 2; }", "{ f = let { g = 1; g = 2; } in 1; }", "{ class C { m : Int; }; instance C { m x = 1; m = 2; }; }",
			"{ x + y = x; infix 5 +; f = 1 + 2 + 3; }", "{ infixl 5 +; infixr 5 -; x + y = x; x - y = x; f = 1 + 2 - 3; }", "{ infixl 5 +; infixr 5 -; x + y = x; x - y = x; f = 1 - 2 + 3; }", "{ infix 5 +; infixl 5 -; x + y = x; x - y = x; f = 1 - 2 + 3; }",
			"{ infix 5 +; infixl 7 *; x + y = x; x * y = x; f = 1 + 2 * 3 + 4; }", "{ f = let { infix 9 +; x + y = x; } in 1 + 2 + 3; }", "{ f = let { infixr 9 +; x + y = x; x - y = x; } in 1 + 2 - 3; }",
		},
		api.ErrExport: {
			"module M (x) { }", "module M (x, y) { x = z; }", "module M (Int, add) { }", "module M { import N (x); } module N { }", "module M { import N (x, y); } module N (x) { x = 1; y = 1; }", "module M { import N (Int); } module N { }",
			"module M { import N; import O; import O (z); x = 1; } module N { x = 1; } module O { x = 1; }", "module M (z) { import N; x = 1; } module N { x = 1; }",
		},
	} {
		for _, s := range sources {
			if s[0] == '{' {
				s = "module M " + s
			}
			if p, got := Resolve(read(t, s)); got != e || len(p.Decls)+len(p.Groups) > 0 {
				t.Errorf("%s: %v, want %v", s, got, e)
			}
		}
	}
}

// TestFirstError: the modules have their errors in the order of Order, and the declarations theirs from the first one on.
func TestFirstError(t *testing.T) {
	for _, c := range []struct {
		source string
		e      api.Errno
	}{
		{"module M { import N; x = y; } module N { f x x = 1; }", api.ErrTwice},
		{"module M { x = y; } module N { f x x = 1; }", api.ErrName},
		{"module M { import N; x = y; } module N { x = 1; } module O (z) { }", api.ErrTwice},
		{"module M (z) { import N; x = 1; } module N { x = do { }; }", api.ErrForm},
		{"module M { f x x = 1; x = y; }", api.ErrTwice},
		{"module M { x = y; f x x = 1; }", api.ErrName},
		{"module M { x = do { }; f x x = 1; y : Int; }", api.ErrForm},
		{"module M { y : Int; x = do { }; f x x = 1; }", api.ErrName},
		{"module M { f x x = 1; infix 3 +; }", api.ErrName},
		{"module M { x = y; infix 3 +; infix 3 +; a + b = 1; }", api.ErrTwice},
		{"module M { data T : a { }; x = do { }; }", api.ErrName},
		{"module M { x = do { }; data T : a { }; }", api.ErrForm},
	} {
		if _, e := Resolve(read(t, c.source)); e != c.e {
			t.Errorf("%s: %v", c.source, e)
		}
	}
}
