package print

import (
	"strconv"

	"damask/api"
)

// How strongly the text of an expression holds together.
const (
	annotated = iota
	operated
	worded // begins with a word or a sign
	appliedTo
	constructed
	single
)

// place is where an expression stands: it needs parentheses there if it is weaker, or if it is open although it must be closed. An expression is open if it goes on as far as possible.
type place struct {
	strength int
	closed   bool
}

var (
	anything      = place{annotated, false}
	beforeType    = place{operated, true}
	beforeOperand = place{worded, true}
	lastOperand   = place{worded, false}
	function      = place{appliedTo, false}
	parameter     = place{constructed, false}
	updated       = place{single, false}
)

func exprIn(e api.Expr, p place) string {
	return enclosed(exprText(e), strengthOf(e) < p.strength || p.closed && isOpen(e))
}

func strengthOf(e api.Expr) int {
	switch e.Op {
	case api.XAnn:
		return annotated
	case api.XOps:
		return operated
	case api.XLam, api.XLet, api.XIf, api.XCase, api.XDo:
		return worded
	case api.XApp, api.XAt:
		return appliedTo
	case api.XCon:
		return constructed
	}
	return single
}

func isOpen(e api.Expr) bool {
	if e.Op == api.XOps {
		e = e.Args[len(e.Args)-1] // if it is an XOps itself, it has parentheses
	}
	return e.Op == api.XLam || e.Op == api.XLet || e.Op == api.XIf
}

func exprText(e api.Expr) string {
	arg := func(n int) string { return exprIn(e.Args[n], anything) }
	switch e.Op {
	case api.XVar:
		return variableText(e.S)
	case api.XInt:
		return strconv.Itoa(e.N)
	case api.XApp:
		return words(exprIn(e.Args[0], function), exprIn(e.Args[1], parameter))
	case api.XAt:
		return words(exprIn(e.Args[0], function), "@"+typeIn(e.Types[0], atom))
	case api.XLam:
		return words(lambdaText(e.Pats), "->", arg(0))
	case api.XLet:
		return words("let", localsText(e.Decls), "in", arg(0))
	case api.XCase:
		return words("case", arg(0), "of", braces(e.Alts, caseText))
	case api.XIf:
		return words("if", arg(0), "then", arg(1), "else", arg(2))
	case api.XAnn:
		return words(exprIn(e.Args[0], beforeType), ":", typeIn(e.Types[0], anyType))
	case api.XRec:
		return words(e.S, fieldsText(e.Fields, e.Args))
	case api.XUpd:
		return words(exprIn(e.Args[0], updated), fieldsText(e.Fields, e.Args[1:]))
	case api.XOps:
		return operationsText(e, lastOperand)
	case api.XDo:
		return words("do", braces(e.Stmts, stmtText))
	}
	return e.S
}

func operationsText(e api.Expr, last place) string {
	text, n := "", len(e.Fields)
	for i, operator := range e.Fields {
		text = words(text, exprIn(e.Args[i], beforeOperand), operator)
	}
	return words(text, exprIn(e.Args[n], last))
}

// condText writes the condition of a guard, in which nothing is open.
func condText(e api.Expr) string {
	if e.Op == api.XOps {
		return operationsText(e, beforeOperand)
	}
	return exprIn(e, beforeType)
}

func fieldsText(fields []string, values []api.Expr) string {
	at := 0
	assignment := func(field string) string {
		value := values[at]
		at++
		return words(field, "=", exprIn(value, anything))
	}
	return words("{", list(fields, ", ", assignment), "}")
}

func stmtText(s api.Stmt) string {
	if s.Let {
		return words("let", localsText(s.Decls))
	}
	pat := list(s.Pat, "", func(p api.Pat) string { return words(patIn(p, anyPat), "<-") })
	return words(pat, exprIn(s.Expr, anything))
}

func caseText(a api.Alt) string { return words(patIn(a.Pats[0], anyPat), valuesText(a, "->")) }

// valuesText writes what follows the patterns of an Alt, with the sign that stands before its values.
func valuesText(a api.Alt, sign string) string {
	guard := func(g api.Guard) string {
		cond := list(g.If, "", func(e api.Expr) string { return words("|", condText(e)) })
		return words(cond, sign, exprIn(g.Then, anything))
	}
	text := list(a.Rhs, " ", guard)
	if len(a.Where) == 0 {
		return text
	}
	return words(text, "where", localsText(a.Where))
}
