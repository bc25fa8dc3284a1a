package free

import (
	"math/rand"
	"reflect"
	"slices"
	"strconv"
	"strings"
	"testing"

	"damask/api"
	"damask/syntax"
)

func TestVariables(t *testing.T) {
	for source, want := range map[string]string{
		"x": "x", "\\x -> x y": "y", "\\x@(P !y ~z) -> x y z u": "u", "x (\\x -> x)": "x",
		"let { x = y; f z = x z u; } in x f v": "u v y", "let { x : a; } in x": "x",
		"case x of { x -> x; P y | y -> z where { z = y u; }; }": "u x", "case 1 of { x | y -> z where { y = x; }; _ -> x; }": "x z",
		"if a then b else c": "a b c", "a + b": "+ a b", "let { a + b = a; } in a + b": "a b", "P { f = x }": "x", "x { f = y }": "x y", "f @T x": "f x",
		"do { x <- y; x; z; }": "bind y z", "do { x; }": "x", "do { let { x = y; }; x; }": "y", "do { bind <- bind; x; bind; }": "bind x", "do { let { bind = 1; }; x <- x; y; }": "x y", "do { x <- x; let { y = x; }; y; }": "bind x",
	} {
		e, at, wrong := syntax.Expr(source)
		if wrong != api.OK {
			t.Fatal(source, at)
		}
		if got := strings.Join(Variables(&e), " "); got != want {
			t.Errorf("%s: %s, not %s", source, got, want)
		}
	}
}

func TestBound(t *testing.T) {
	l, _, _ := syntax.Modules("module M { f x y@(P !z ~x _ 1) = 1; }")
	if got := Bound(l[0].Decls[0].Alts[0].Pats); !slices.Equal(got, []string{"x", "y", "z", "x"}) || Bound(nil) != nil {
		t.Error(got)
	}
}

func TestGroups(t *testing.T) {
	for source, want := range map[string][][]int{
		"": nil, "f : a;": nil, "f = f;": {{0}}, "f = g; g = f;": {{0, 1}}, "f = g; g = 1;": {{1}, {0}}, "f x = g x; g : a; g y = f y;": {{0}, {2}},
		"a = b; b = c; c = b; d = a;": {{1, 2}, {0}, {3}}, "a = d; b = 1; c = b; d = c;": {{1}, {2}, {3}, {0}}, "a = \\b -> b; b = a;": {{0}, {1}},
		"a x | b = c where { c = d; }; b = 1; c = a; d = c;": {{1}, {0, 2, 3}}, "a = e; b = 1; c = 1; e = c;": {{1}, {2}, {3}, {0}},
		"a : t; a = b; b : t; b = a; c = a;": {{1}, {3}, {4}}, "a = let { a = b; } in a; b = 1;": {{1}, {0}},
	} {
		l, at, wrong := syntax.Modules("module M { " + source + " }")
		if wrong != api.OK {
			t.Fatal(source, at)
		}
		if got := Groups(l[0].Decls); !reflect.DeepEqual(got, want) {
			t.Errorf("%s: %v, not %v", source, got, want)
		}
	}
}

// TestOrder: groups of random definitions are those that reach each other, in the order that is promised.
func TestOrder(t *testing.T) {
	r := rand.New(rand.NewSource(1))
	for range 3000 {
		n := 1 + r.Intn(9)
		reaches := make([][]bool, n)
		var l []api.Decl
		for i := range n {
			reaches[i] = make([]bool, n)
			body := api.Expr{Op: api.XInt}
			for range r.Intn(3) {
				to := r.Intn(n)
				reaches[i][to] = true
				body = api.Expr{Op: api.XApp, Args: []api.Expr{body, {Op: api.XVar, S: string(rune('a' + to))}}}
			}
			l = append(l, api.Decl{Op: api.DBind, Name: string(rune('a' + i)), Alts: []api.Alt{{Rhs: []api.Guard{{Then: body}}}}})
		}
		for k := range n {
			for i := range n {
				for j := range n {
					reaches[i][j] = reaches[i][j] || reaches[i][k] && reaches[k][j]
				}
			}
		}
		var want [][]int
		done := make([]bool, n)
		for len(slices.Concat(want...)) < n {
			for i := range n {
				isNext := !done[i]
				for j := range n {
					isNext = isNext && (!reaches[i][j] || done[j] || reaches[j][i])
				}
				if !isNext {
					continue
				}
				var group []int
				for j := range n {
					if j == i || reaches[i][j] && reaches[j][i] {
						group = append(group, j)
						done[j] = true
					}
				}
				want = append(want, group)
				break
			}
		}
		if got := Groups(l); !reflect.DeepEqual(got, want) {
			t.Fatal(got, want)
		}
	}
}

// TestLong: lists can have any length, however much in them needs the rest.
func TestLong(t *testing.T) {
	const n = 100000
	name := func(i int) string { return "x" + strconv.Itoa(i%n) }
	chain := func(step int) []api.Decl {
		l := make([]api.Decl, n)
		for i := range l {
			l[i] = api.Decl{Op: api.DBind, Name: name(i), Alts: []api.Alt{{Rhs: []api.Guard{{Then: api.Expr{Op: api.XVar, S: name(i + step)}}}}}}
		}
		return l
	}
	ring := chain(1)
	if l := Groups(ring); len(l) != 1 || len(l[0]) != n || !slices.IsSorted(l[0]) {
		t.Error(len(l))
	}
	ring[n-1].Alts = nil
	if l := Groups(ring); len(l) != n || l[0][0] != n-1 || l[n-1][0] != 0 {
		t.Error(len(l))
	}
	if l := Groups(chain(n / 2)); len(l) != n/2 || !slices.Equal(l[7], []int{7, 7 + n/2}) {
		t.Error(len(l))
	}
}
