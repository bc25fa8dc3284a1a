package print

import (
	"math/rand"
	"strings"
	"testing"

	"damask/api"
	"damask/internal/sample"
	"damask/lexis"
	"damask/syntax"
)

const rounds = 3000

func newMaker(seed int64) sample.Maker {
	return sample.Maker{Choose: rand.New(rand.NewSource(seed)).Intn}
}

// inForm reports whether the blanks of a text are where chapter 3 has them, as far as its tokens alone show it.
func inForm(text string) bool {
	tokens, _, e := lexis.Tokens(text)
	if e != api.OK {
		return false
	}
	for i := range len(tokens) - 2 {
		left, right := tokens[i], tokens[i+1]
		between := text[left.At+len(left.Text) : right.At]
		switch {
		case left.Text == "(" || left.Text == "'" || left.Text == "\\" || left.Text == "!":
			if between != "" {
				return false
			}
		case right.Text == ")" || right.Text == "," || right.Text == ";" || right.Text == ".":
			if between != "" {
				return false
			}
		case left.Text == "@" || left.Text == "~" || right.Text == "@":
			if between != "" && between != " " {
				return false
			}
		case between != " ":
			return false
		}
	}
	return true
}

// TestModuleAgain: a module is read again from its text.
func TestModuleAgain(t *testing.T) {
	m := newMaker(1)
	short := 0
	for range rounds {
		x := m.Module()
		text, e := Module(x)
		if e == api.ErrFull || len(text) > api.MaxSource {
			continue
		}
		short++
		if l, at, e := syntax.Modules(text); e != api.OK || len(l) != 1 || !syntax.Same(l[0], x) {
			t.Fatalf("%d %v\n%s", at, e, text)
		}
	}
	if short < rounds/2 {
		t.Error("too few:", short)
	}
}

// TestExprAgain: an expression is read again from its text, from which no parentheses can be left out.
func TestExprAgain(t *testing.T) {
	m := newMaker(2)
	for i := range rounds {
		x := m.Expr(1 + i%5)
		text, e := Expr(x)
		if e != api.OK || len(text) > api.MaxSource {
			continue
		}
		again := func(s string) bool {
			y, _, e := syntax.Expr(s)
			return e == api.OK && syntax.SameExpr(x, y)
		}
		if !again(text) || !inForm(text) {
			t.Fatal(text)
		}
		if len(text) < 300 && !strings.Contains(text, " : ") { // an annotation ends what is open, so that some could be left out
			withoutPairs(t, text, again)
		}
	}
}

// TestTypeAgain is the same for types.
func TestTypeAgain(t *testing.T) {
	m := newMaker(3)
	for i := range rounds {
		x := m.Type(1 + i%5)
		text, e := Type(x)
		again := func(s string) bool {
			y, _, e := syntax.Type(s)
			return e == api.OK && syntax.SameType(x, y)
		}
		if e != api.OK || !again(text) || !inForm(text) {
			t.Fatal(e, text)
		}
		withoutPairs(t, text, again)
	}
}

// withoutPairs leaves out each pair of parentheses of a text.
func withoutPairs(t *testing.T, text string, again func(string) bool) {
	t.Helper()
	var open []int
	for i := range len(text) {
		switch text[i] {
		case '(':
			open = append(open, i)
		case ')':
			from := open[len(open)-1]
			open = open[:len(open)-1]
			if without := text[:from] + " " + text[from+1:i] + " " + text[i+1:]; again(without) && again(text[:from]+text[from+1:i]+text[i+1:]) {
				t.Fatalf("%q is the same as %q", without, text)
			}
		}
	}
}

// TestPairs: no expression or pattern within another one is wrong, whichever both are.
func TestPairs(t *testing.T) {
	outer := []string{"$ x", "x $", "$ @Int", "\\x -> $", "let { } in $", "let { x = $; } in x", "let { x | $ = x; } in x", "let { x | $ + x = x | x + $ = x; } in x",
		"case $ of { }", "case x of { x -> $; }", "case x of { x | $ -> x; }", "if $ then x else x", "if x then $ else x", "if x then x else $", "$ : Int", "C { f = $ }", "$ { f = x }", "x { f = $ }",
		"$ + x", "x + $", "x + $ + x", "do { $; x <- $; }"}
	inner := []string{"x", "C", "5", "f x", "x @Int", "\\x -> x", "let { } in x", "case x of { }", "if x then x else x", "x : Int", "C { f = x }", "x { f = x }", "x + y", "x + \\x -> x", "x + if x then x else x", "x + let { } in x", "do { }", "(+)"}
	hole := api.Expr{Op: api.XVar, S: "hole"}
	for _, o := range outer {
		for _, i := range inner {
			x := parsed(t, replaceAll(o, "hole"))
			y := parsed(t, i)
			filled := fill(x, hole, y)
			text, e := Expr(filled)
			again, _, e2 := syntax.Expr(text)
			if e != api.OK || e2 != api.OK || !syntax.SameExpr(again, filled) {
				t.Errorf("%s, %s: %q %v %v", o, i, text, e, e2)
			}
		}
	}
}

func replaceAll(s, hole string) string {
	out := ""
	for _, r := range s {
		if r == '$' {
			out += hole
		} else {
			out += string(r)
		}
	}
	return out
}

func parsed(t *testing.T, s string) api.Expr {
	t.Helper()
	x, at, e := syntax.Expr(s)
	if e != api.OK {
		t.Fatal(s, at, e)
	}
	return x
}

// fill puts an expression for a hole, wherever the outer ones have it.
func fill(x, hole, y api.Expr) api.Expr {
	if syntax.SameExpr(x, hole) {
		return y
	}
	in := func(l []api.Expr) {
		for i := range l {
			l[i] = fill(l[i], hole, y)
		}
	}
	alts := func(l []api.Alt) {
		for _, a := range l {
			for i := range a.Rhs {
				in(a.Rhs[i].If)
				a.Rhs[i].Then = fill(a.Rhs[i].Then, hole, y)
			}
		}
	}
	in(x.Args)
	alts(x.Alts)
	for _, d := range x.Decls {
		alts(d.Alts)
	}
	for i := range x.Stmts {
		x.Stmts[i].Expr = fill(x.Stmts[i].Expr, hole, y)
	}
	return x
}
