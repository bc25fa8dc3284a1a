package syntax

import "damask/api"

func (r *reader) expr() api.Expr {
	return r.annotated(r.operations(r.operand(r.exprs), r.exprs))
}

func (r *reader) annotated(e api.Expr) api.Expr {
	if !r.accept(":") {
		return e
	}
	return api.Expr{Op: api.XAnn, Args: []api.Expr{e}, Types: []api.Type{r.typ()}}
}

// cond reads the condition of a guard.
func (r *reader) cond() api.Expr { return r.operations(r.operand(r.conds), r.conds) }

// operations goes on after the first operand; words are those with which an operand can begin.
func (r *reader) operations(first api.Expr, words map[string]func() api.Expr) api.Expr {
	if r.kind() != api.TOp {
		return first
	}
	e := api.Expr{Op: api.XOps, Args: []api.Expr{first}}
	for r.kind() == api.TOp {
		operator := r.take(api.TOp)
		operand := r.operand(words)
		e.Fields = append(e.Fields, operator)
		e.Args = append(e.Args, operand)
	}
	return e
}

func (r *reader) operand(words map[string]func() api.Expr) api.Expr {
	if read := words[r.text()]; read != nil {
		return read()
	}
	e := r.aexp()
	for {
		switch {
		case r.startsAexp():
			e = api.Expr{Op: api.XApp, Args: []api.Expr{e, r.aexp()}}
		case r.accept("@"):
			e = api.Expr{Op: api.XAt, Args: []api.Expr{e}, Types: []api.Type{r.atype()}}
		default:
			return e
		}
	}
}

func (r *reader) startsAexp() bool {
	switch r.kind() {
	case api.TVar, api.TCon, api.TInt:
		return true
	}
	return r.text() == "("
}

func (r *reader) aexp() api.Expr {
	bare := r.kind() == api.TCon // in parentheses a constructor is like any other expression
	e := r.simple()
	if bare && r.text() == "{" {
		fields, values := r.record()
		e = api.Expr{Op: api.XRec, S: e.S, Fields: fields, Args: values}
	}
	for r.text() == "{" {
		fields, values := r.record()
		e = api.Expr{Op: api.XUpd, Fields: fields, Args: append([]api.Expr{e}, values...)}
	}
	return e
}

// simple reads an aexp without its record braces.
func (r *reader) simple() api.Expr {
	switch {
	case r.kind() == api.TCon:
		return api.Expr{Op: api.XCon, S: r.capital()}
	case r.kind() == api.TInt:
		return api.Expr{Op: api.XInt, N: r.number()}
	case r.startsVariable():
		return api.Expr{Op: api.XVar, S: r.variable()}
	}
	r.expect("(")
	e := r.expr()
	r.expect(")")
	return e
}

// assignment is a field of a record, with its value.
type assignment struct {
	field string
	value api.Expr
}

func (r *reader) record() ([]string, []api.Expr) {
	r.expect("{")
	var fields []string
	var values []api.Expr
	for _, a := range list(r, ",", r.assignment) {
		fields = append(fields, a.field)
		values = append(values, a.value)
	}
	r.expect("}")
	return fields, values
}

func (r *reader) assignment() assignment {
	field := r.small()
	r.expect("=")
	return assignment{field, r.expr()}
}

func (r *reader) lambda() api.Expr {
	r.expect("\\")
	pats := []api.Pat{r.apat()}
	pats = append(pats, r.apats()...)
	r.expect("->")
	return api.Expr{Op: api.XLam, Pats: pats, Args: []api.Expr{r.expr()}}
}

func (r *reader) let() api.Expr {
	decls := r.letBlock()
	return r.letBody(decls)
}

func (r *reader) letBlock() []api.Decl {
	r.expect("let")
	return r.localBlock()
}

func (r *reader) letBody(decls []api.Decl) api.Expr {
	r.expect("in")
	return api.Expr{Op: api.XLet, Decls: decls, Args: []api.Expr{r.expr()}}
}

func (r *reader) cases() api.Expr {
	r.expect("case")
	e := r.expr()
	r.expect("of")
	return api.Expr{Op: api.XCase, Args: []api.Expr{e}, Alts: block(r, r.caseAlt)}
}

func (r *reader) caseAlt() api.Alt {
	p := r.pat()
	return r.alt([]api.Pat{p}, "->")
}

// alt reads what follows the patterns of a clause or an alternative, with the sign that stands before its values.
func (r *reader) alt(pats []api.Pat, sign string) api.Alt {
	a := api.Alt{Pats: pats}
	if r.text() == "|" {
		for r.accept("|") {
			a.Rhs = append(a.Rhs, r.guard(sign))
		}
	} else {
		r.expect(sign)
		a.Rhs = []api.Guard{{Then: r.expr()}}
	}
	if r.accept("where") {
		a.Where = r.localBlock()
	}
	return a
}

func (r *reader) guard(sign string) api.Guard {
	cond := r.cond()
	r.expect(sign)
	return api.Guard{If: []api.Expr{cond}, Then: r.expr()}
}

func (r *reader) choice() api.Expr {
	r.expect("if")
	cond := r.expr()
	r.expect("then")
	then := r.expr()
	r.expect("else")
	return api.Expr{Op: api.XIf, Args: []api.Expr{cond, then, r.expr()}}
}

func (r *reader) do() api.Expr {
	r.expect("do")
	return api.Expr{Op: api.XDo, Stmts: block(r, r.stmt)}
}

// stmt tries a pattern first: what begins an expression often begins a pattern, too.
func (r *reader) stmt() api.Stmt {
	var p api.Pat
	pattern := func() {
		p = r.pat()
		r.expect("<-")
	}
	if r.try(pattern) {
		return api.Stmt{Pat: []api.Pat{p}, Expr: r.expr()}
	}
	if r.text() != "let" {
		return api.Stmt{Expr: r.expr()}
	}
	decls := r.letBlock()
	if r.text() != "in" {
		return api.Stmt{Let: true, Decls: decls}
	}
	first := r.letBody(decls)
	return api.Stmt{Expr: r.annotated(r.operations(first, r.exprs))}
}
