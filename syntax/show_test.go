package syntax

import (
	"strconv"
	"strings"

	"damask/api"
)

// The functions of this file write what is well built with parentheses around every part, and "?" for what has no text.

func variableText(s string) string {
	if s != "" && strings.Contains("!#$%&*+./<=>?@^|-~:\\", s[:1]) {
		return "( " + s + " )"
	}
	return s
}

func each[T any](l []T, between string, text func(T) string) string {
	var s []string
	for _, x := range l {
		s = append(s, text(x))
	}
	return strings.Join(s, between)
}

func braces[T any](l []T, text func(T) string) string {
	return " { " + each(l, "", func(x T) string { return text(x) + "; " }) + "} "
}

func typeAtom(t api.Type) string {
	switch {
	case t.Op == api.YCon && t.S == "->":
		return "(->)"
	case t.Op == api.YCon && t.S != "~", t.Op == api.YName:
		return t.S
	}
	return "(" + typeText(t) + ")"
}

func typeText(t api.Type) string {
	if len(t.Args) != 2 {
		if t.Op == api.YCon && t.S != "~" || t.Op == api.YName {
			return typeAtom(t)
		}
		return "?"
	}
	a, b := t.Args[0], t.Args[1]
	switch t.Op {
	case api.YAll:
		return "forall (" + t.S + " : " + typeText(a) + ") . " + typeText(b)
	case api.YImp:
		return typeAtom(a) + " => " + typeText(b)
	case api.YApp:
		if a.Op == api.YApp && len(a.Args) == 2 && a.Args[0].Op == api.YCon && a.Args[0].S == "~" {
			return typeAtom(a.Args[1]) + " ~ " + typeAtom(b)
		}
		return typeAtom(a) + " " + typeAtom(b)
	}
	return "?"
}

func patText(p api.Pat) string {
	args := each(p.Args, " ", func(q api.Pat) string { return "(" + patText(q) + ")" })
	switch p.Op {
	case api.PWild:
		return "_"
	case api.PVar:
		return p.S
	case api.PCon:
		return p.S + " " + args
	case api.PInt:
		return strconv.Itoa(p.N)
	case api.PAs:
		return p.S + " @ " + args
	case api.PBang:
		return "! " + args
	case api.PLazy:
		return "~ " + args
	}
	return "?"
}

func patAtom(p api.Pat) string { return " (" + patText(p) + ") " }

func exprAtom(e api.Expr) string { return " (" + exprText(e) + ") " }

func exprText(e api.Expr) string {
	x := func(i int) string {
		if i >= len(e.Args) {
			return "?"
		}
		return exprAtom(e.Args[i])
	}
	y := func() string {
		if len(e.Types) != 1 {
			return "?"
		}
		return "(" + typeText(e.Types[0]) + ")"
	}
	switch e.Op {
	case api.XVar:
		return variableText(e.S)
	case api.XCon:
		return e.S
	case api.XInt:
		return strconv.Itoa(e.N)
	case api.XApp:
		return x(0) + x(1)
	case api.XAt:
		return x(0) + "@ " + y()
	case api.XAnn:
		return x(0) + " : " + y()
	case api.XLam:
		return "\\ " + each(e.Pats, " ", patAtom) + " -> " + x(0)
	case api.XLet:
		return "let" + braces(e.Decls, declText) + "in" + x(0)
	case api.XCase:
		return "case" + x(0) + "of" + braces(e.Alts, func(a api.Alt) string { return altText(a, "->") })
	case api.XIf:
		return "if" + x(0) + "then" + x(1) + "else" + x(2)
	case api.XDo:
		return "do" + braces(e.Stmts, stmtText)
	case api.XRec:
		return e.S + fieldsText(e, 0)
	case api.XUpd:
		return x(0) + fieldsText(e, 1)
	case api.XOps:
		s := x(0)
		for i, f := range e.Fields {
			s += f + x(i+1)
		}
		return s
	}
	return "?"
}

func fieldsText(e api.Expr, from int) string {
	if len(e.Args) != len(e.Fields)+from {
		return "?"
	}
	at := from - 1
	return " { " + each(e.Fields, ", ", func(f string) string { at++; return f + " = " + exprText(e.Args[at]) }) + " } "
}

func stmtText(s api.Stmt) string {
	if s.Let {
		return "let" + braces(s.Decls, declText)
	}
	return each(s.Pat, "", func(p api.Pat) string { return patText(p) + " <- " }) + exprText(s.Expr)
}

func altText(a api.Alt, sign string) string {
	s := each(a.Pats, "", patAtom)
	for _, g := range a.Rhs {
		s += each(g.If, "", func(e api.Expr) string { return "| " + exprAtom(e) }) + sign + exprAtom(g.Then)
	}
	if len(a.Where) > 0 {
		s += "where" + braces(a.Where, declText)
	}
	return s
}

func declText(d api.Decl) string {
	sig := func(s api.Sig) string { return variableText(s.Name) + " : " + typeText(s.Type) }
	switch d.Op {
	case api.DData, api.DNew:
		s := []string{"data ", "newtype "}[d.Op-api.DData] + d.Name + " : " + typeText(d.Type)
		if len(d.Deriving) > 0 {
			s += " deriving (" + strings.Join(d.Deriving, ", ") + ")"
		}
		return s + braces(d.Cons, conText)
	case api.DFamily:
		eq := func(e api.Eq) string { return typeAtom(e.Left) + " = " + typeText(e.Right) }
		return "family " + d.Name + " : " + typeText(d.Type) + braces(d.Eqs, eq)
	case api.DClass:
		s := "class " + each(d.Context, "", func(t api.Type) string { return typeAtom(t) + " => " }) + d.Name
		s += each(d.Vars, "", func(b api.Binder) string { return " (" + b.Name + " : " + typeText(b.Kind) + ")" })
		if len(d.Deps) > 0 {
			s += " | " + each(d.Deps, ", ", func(x api.Dep) string { return strings.Join(x.From, " ") + " -> " + strings.Join(x.To, " ") })
		}
		return s + braces(d.Sigs, sig)
	case api.DInst:
		return "instance " + typeText(d.Type) + braces(d.Decls, declText)
	case api.DSig:
		return sig(api.Sig{Name: d.Name, Type: d.Type})
	case api.DBind:
		return each(d.Alts, "; ", func(a api.Alt) string { return variableText(d.Name) + altText(a, "=") })
	case api.DFix:
		return d.S + " " + strconv.Itoa(d.N) + " " + d.Name
	}
	return "?"
}

func conText(c api.Con) string {
	if len(c.Fields) == 0 {
		return c.Name + " : " + typeText(c.Type)
	}
	s, t := c.Name+" : ", c.Type
	var binders []string
	for t.Op == api.YAll && len(t.Args) == 2 {
		binders = append(binders, "("+t.S+" : "+typeText(t.Args[0])+")")
		t = t.Args[1]
	}
	if len(binders) > 0 {
		s += "forall " + strings.Join(binders, " ") + " . "
	}
	var fields []string
	for _, f := range c.Fields {
		if t.Op != api.YApp || len(t.Args) != 2 || len(t.Args[0].Args) != 2 || t.Args[0].Op != api.YApp || t.Args[0].Args[0].S != "->" {
			return "?"
		}
		fields = append(fields, f+" : "+typeText(t.Args[0].Args[1]))
		t = t.Args[1]
	}
	return s + "{ " + strings.Join(fields, ", ") + " } -> " + typeText(t)
}

func moduleText(m api.Module) string {
	names := func(all bool, l []string) string {
		if all {
			return ""
		}
		return " (" + each(l, ", ", variableText) + ")"
	}
	s := "module " + m.Name + names(m.All, m.Exports) + " {\n"
	for _, i := range m.Imports {
		s += "import " + i.Module + names(i.All, i.Names) + ";\n"
	}
	return s + each(m.Decls, "", func(d api.Decl) string { return declText(d) + ";\n" }) + "}\n"
}
