package scope

import (
	"strconv"
	"strings"
	"testing"

	"damask/api"
	"damask/syntax"
)

// The functions of this file write all that declarations have, with parentheses around every part.

func each2[T any](l []T, text func(T) string) string {
	s := ""
	for _, x := range l {
		s += " " + text(x)
	}
	return s
}

func showType(t api.Type) string {
	switch t.Op {
	case api.YVar:
		return "#" + strconv.Itoa(t.N)
	case api.YApp:
		return "(" + showType(t.Args[0]) + " " + showType(t.Args[1]) + ")"
	case api.YAll:
		return "(all " + t.S + ":" + showType(t.Args[0]) + " " + showType(t.Args[1]) + ")"
	case api.YImp:
		return "(" + showType(t.Args[0]) + " => " + showType(t.Args[1]) + ")"
	}
	return t.S
}

func showPat(p api.Pat) string {
	s := []string{"", "_", p.S, "(" + p.S, strconv.Itoa(p.N), "(" + p.S + "@", "(!", "(~"}[p.Op] + each2(p.Args, showPat)
	return s + map[bool]string{true: ")"}[strings.HasPrefix(s, "(")]
}

func showExpr(e api.Expr) string {
	words := []string{"", e.S, e.S, strconv.Itoa(e.N), "", "@", "\\", "let", "case", "if", ":", "rec " + e.S, "upd", "ops", "do"}
	s := words[e.Op] + each2(e.Fields, func(f string) string { return f }) + each2(e.Pats, showPat) + each2(e.Decls, showDecl) +
		each2(e.Args, showExpr) + each2(e.Types, showType) + each2(e.Alts, showAlt) + each2(e.Stmts, showStmt)
	if e.Op <= api.XInt {
		return s
	}
	return "(" + strings.TrimSpace(s) + ")"
}

func showStmt(s api.Stmt) string {
	if s.Let {
		return "{let" + each2(s.Decls, showDecl) + "}"
	}
	return "{" + each2(s.Pat, showPat) + " <- " + showExpr(s.Expr) + "}"
}

func showAlt(a api.Alt) string {
	s := each2(a.Pats, showPat)
	for _, g := range a.Rhs {
		s += each2(g.If, func(e api.Expr) string { return "| " + showExpr(e) }) + " = " + showExpr(g.Then)
	}
	return "[" + strings.TrimSpace(s+each2(a.Where, showDecl)) + "]"
}

func showDecl(d api.Decl) string {
	s := []string{"", "data ", "new ", "family ", "class ", "instance", "sig ", "", "fix "}[d.Op] + d.Name + d.S
	if d.Op != api.DBind && d.Op != api.DClass && d.Op != api.DFix {
		s += " : " + showType(d.Type)
	}
	s += each2(d.Deriving, func(n string) string { return "deriving " + n })
	for _, c := range d.Cons {
		s += " {" + c.Name + " : " + showType(c.Type) + each2(c.Fields, func(f string) string { return f }) + "}"
	}
	s += each2(d.Eqs, func(e api.Eq) string { return "{" + showType(e.Left) + " = " + showType(e.Right) + "}" })
	s += each2(d.Vars, func(b api.Binder) string { return "(" + b.Name + ":" + showType(b.Kind) + ")" })
	s += each2(d.Context, func(t api.Type) string { return "[" + showType(t) + "]" })
	s += each2(d.Deps, func(x api.Dep) string {
		return "<" + strings.Join(x.From, " ") + "->" + strings.Join(x.To, " ") + ">"
	})
	s += each2(d.Sigs, func(x api.Sig) string { return "{" + x.Name + " : " + showType(x.Type) + "}" })
	return "<" + s + each2(d.Alts, showAlt) + each2(d.Decls, showDecl) + ">"
}

func read(t *testing.T, source string) []api.Module {
	t.Helper()
	l, at, e := syntax.Modules(source)
	if e != api.OK {
		t.Fatalf("%q: %d %v", source, at, e)
	}
	return l
}

func readExpr(t *testing.T, source string) api.Expr {
	t.Helper()
	x, at, e := syntax.Expr(source)
	if e != api.OK {
		t.Fatalf("%q: %d %v", source, at, e)
	}
	return x
}
