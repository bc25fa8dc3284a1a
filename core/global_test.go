package core

import (
	"slices"
	"strconv"
	"strings"
	"testing"

	"damask/api"
	"damask/internal/problem"
	"damask/internal/text"
)

// program reads globals: `f : T = term;`, each with a bar before the next one.
func program(e api.Env, source string) api.CoreProgram {
	p := api.CoreProgram{Env: e}
	for s := range strings.SplitSeq(source, "|") {
		if strings.TrimSpace(s) == "" {
			continue
		}
		name, rest, _ := strings.Cut(s, " : ")
		t, term, _ := strings.Cut(rest, " = ")
		p.Globals = append(p.Globals, api.Global{Name: strings.TrimSpace(name), Type: text.Type(t), Term: around("").term(term)})
	}
	return p
}

func TestCheck(t *testing.T) {
	e := problem.Env(declared + "double : Int -> Int; double x = x; ")
	for _, row := range []struct {
		source string
		at     int
		want   api.Errno
	}{
		{"", 0, api.OK}, {"x : Int = 5", 1, api.OK}, {"x : Bool = 5", 0, api.ErrCore}, {"x : Int = 5 | y : Bool = 5", 1, api.ErrCore}, {"x : Int = $y | y : Int = $x", 2, api.OK}, {"x : Int = $x", 1, api.OK}, {"x : Int = $y | y : Bool = True", 0, api.ErrCore}, {"x : Int = $no", 0, api.ErrCore}, {"x : Int -> Int -> Int = $add", 1, api.OK}, {"x : Int = $add", 0, api.ErrCore}, {"x : Int = #0", 0, api.ErrCore},
		// types of globals
		{"x : forall a. a -> a = (tlam a {Type} (lam y {a} y))", 1, api.OK}, {"x : forall a. a = (tlam a {Type} (at $x {a}))", 1, api.OK}, {"d : Eq Int = $d", 1, api.OK}, {"d : forall a. Eq a => Eq (List a) = $d", 1, api.OK}, {"d : forall (n : Nat). forall a. Eq a => forall b. Ord b => Eq (Pair a b) = $d", 1, api.OK}, {"d : Int ~ Bool => Int = (qlam q {Int} {Bool} (cast True (sym q)))", 1, api.OK}, {"d : Int ~ Bool => Eq Int = $d", 1, api.OK},
		{"x : List = $x", 0, api.ErrCore}, {"x : 'Z = $x", 0, api.ErrCore}, {"x : v0 = $x", 0, api.ErrCore}, {"x : r0 = $x", 0, api.ErrCore}, {"x : m0 = $x", 0, api.ErrCore}, {"x : forall a. v0 = $x", 0, api.ErrCore}, {"x : Eq List = $x", 0, api.ErrCore}, {"x : Int ~ Int = $x", 0, api.ErrCore}, {"x : forall a. Int ~ a = $x", 0, api.ErrCore}, {"x : forall (a : List). Int = $x", 0, api.ErrCore}, {"x : Int => Int = $x", 0, api.ErrCore}, {"x : Eq => Int = $x", 0, api.ErrCore}, {"x : forall (a : 'Z). Int = $x", 0, api.ErrCore}, {"x : forall (c : Constraint). c = $x", 0, api.ErrCore}, {"x : forall (c : Constraint). c => Int = $x", 1, api.OK}, {"x : Int -> Eq Int = $x", 0, api.ErrCore}, {"x : Eq Int => Eq Bool => List = $x", 0, api.ErrCore}, {"x : No = $x", 0, api.ErrCore}, {"x : Plus 'Z = $x", 0, api.ErrCore}, {"x : IO (forall a. a) = $x", 1, api.OK},
		// names
		{"x : Int = 5 | x : Int = 6", 1, api.ErrCore}, {"x : Int = 5 | y : Int = 6 | x : Int = 7 | y : Bool = 5", 2, api.ErrCore}, {"add : Int -> Int -> Int = (lam x {Int} (lam y {Int} 1))", 1, api.OK}, {"add : Int -> Int = (lam x {Int} 1)", 0, api.ErrCore}, {"x : Int = 5 | double : Int -> Int = (lam x {Int} x)", 2, api.OK}, {"x : Int = 5 | double : Int = 5", 1, api.ErrCore}, {"x : Int -> Int = $double", 1, api.OK}, {"same : forall a. Eq a => a -> a -> Bool = (tlam a {Type} (lam d {Eq a} (case d x {a -> a -> Bool} (Eq% () () (f) f))))", 1, api.OK}, {"same : Int = 5", 0, api.ErrCore},
	} {
		if at, err := Check(program(e, row.source)); at != row.at || err != row.want {
			t.Error(row.source, at, err)
		}
	}
	// of several Sigs with one name the first one counts
	twice := e
	twice.Sigs = append(slices.Clone(e.Sigs), api.Sig{Name: "double", Type: text.Type("Int")}, api.Sig{Name: "more", Type: text.Type("Int")}, api.Sig{Name: "more", Type: text.Type("Bool")})
	for source, want := range map[string]api.Errno{"double : Int = 5": api.ErrCore, "double : Int -> Int = (lam x {Int} x)": api.OK, "more : Int = 5": api.OK, "more : Bool = True": api.ErrCore, "x : Int = $more": api.OK, "x : Bool = $more": api.ErrCore} {
		if _, err := Check(program(twice, source)); err != want {
			t.Error(source, err)
		}
	}
}

// TestCheckArguments: what is not proper comes before what is not right, wherever it is.
func TestCheckArguments(t *testing.T) {
	e := problem.Env(declared)
	p := program(e, "x : Bool = 5 | y : Int = 5 | z : Int = 5")
	p.Globals[2].Term = api.Core{}
	if at, err := Check(p); at != 2 || err != api.ErrArg {
		t.Error(at, err)
	}
	p.Globals[1].Type = api.Type{}
	if at, err := Check(p); at != 1 || err != api.ErrArg {
		t.Error(at, err)
	}
	p.Globals[1].Type = api.Type{Op: api.YAll, S: "a", Args: []api.Type{named("Type"), named("Int")}}
	if at, err := Check(p); at != 1 || err != api.ErrArg {
		t.Error(at, err)
	}
	many := api.CoreProgram{Env: e}
	for n := range 4001 {
		many.Globals = append(many.Globals, api.Global{Name: "x" + strconv.Itoa(n), Type: named("Int"), Term: api.Core{Op: api.CInt}})
	}
	if at, err := Check(many); at != 0 || err != api.ErrArg {
		t.Error(at, err)
	}
	many.Globals = many.Globals[:4000]
	if at, err := Check(many); at != 4000 || err != api.OK {
		t.Error(at, err)
	}
	many.Globals[3999].Type = named("Bool")
	if at, err := Check(many); at != 3999 || err != api.ErrCore {
		t.Error(at, err)
	}
	full := program(e, "x : Int = 5")
	full.Globals = append(full.Globals, api.Global{Name: "f", Type: named("Int"), Term: nestedLams(39)})
	if at, err := Check(full); at != 1 || err != api.ErrFull {
		t.Error(at, err)
	}
}

// nestedLams is a function of so many arguments.
func nestedLams(n int) api.Core {
	c := api.Core{Op: api.CInt}
	for range n {
		c = api.Core{Op: api.CLam, Types: []api.Type{named("Int")}, Args: []api.Core{c}}
	}
	return c
}
