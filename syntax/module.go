package syntax

import "damask/api"

// placed is a module, with the position at which it begins.
type placed struct {
	module api.Module
	at     int
}

func (r *reader) modules() []placed {
	var l []placed
	for r.kind() != api.TEnd {
		at := r.tokens[r.next].At
		l = append(l, placed{r.module(), at})
	}
	return l
}

func (r *reader) module() api.Module {
	r.expect("module")
	m := api.Module{Name: r.capital()}
	m.Exports, m.All = r.names()
	r.expect("{")
	for r.text() == "import" {
		m.Imports = append(m.Imports, r.imported())
		r.expect(";")
	}
	for !r.accept("}") {
		m.Decls = joined(m.Decls, r.decl(r.decls))
		r.expect(";")
	}
	return m
}

func (r *reader) imported() api.Import {
	r.expect("import")
	i := api.Import{Module: r.capital()}
	i.Names, i.All = r.names()
	return i
}

// names reads a list of names in parentheses, or reports that there is none.
func (r *reader) names() ([]string, bool) {
	if !r.accept("(") {
		return nil, true
	}
	if r.accept(")") {
		return nil, false
	}
	l := list(r, ",", r.name)
	r.expect(")")
	return l, false
}

// joined adds a declaration to a list, where a clause belongs to the clauses of its name that end the list.
func joined(l []api.Decl, d api.Decl) []api.Decl {
	if n := len(l); n > 0 && sameClauses(&l[n-1], &d) {
		l[n-1].Alts = append(l[n-1].Alts, d.Alts...)
		return l
	}
	return append(l, d)
}

func sameClauses(a, b *api.Decl) bool {
	return a.Op == api.DBind && b.Op == api.DBind && a.Name == b.Name
}

// declBlock reads braces with declarations.
func (r *reader) declBlock(item func() api.Decl) []api.Decl {
	var l []api.Decl
	for _, d := range block(r, item) {
		l = joined(l, d)
	}
	return l
}

func (r *reader) localBlock() []api.Decl {
	return r.declBlock(func() api.Decl { return r.decl(r.locals) })
}

// decl reads a declaration that begins with one of some words, or is a signature or a clause.
func (r *reader) decl(words map[string]func() api.Decl) api.Decl {
	if read := words[r.text()]; read != nil {
		return read()
	}
	if r.startsInfix() {
		return r.infixClause()
	}
	name := r.variable()
	if r.accept(":") {
		return api.Decl{Op: api.DSig, Name: name, Type: r.typ()}
	}
	return r.prefixClause(name)
}

func (r *reader) clause() api.Decl {
	if r.startsInfix() {
		return r.infixClause()
	}
	return r.prefixClause(r.variable())
}

// startsInfix reports whether what stands here can only be a pattern before an operator: a name alone begins the other form of a clause, too.
func (r *reader) startsInfix() bool {
	if r.kind() == api.TVar {
		after := r.follows()
		return after.Kind == api.TOp || after.Text == "@"
	}
	return !r.startsVariable()
}

func (r *reader) infixClause() api.Decl {
	left := r.pat()
	name := r.take(api.TOp)
	pats := []api.Pat{left, r.pat()}
	return api.Decl{Op: api.DBind, Name: name, Alts: []api.Alt{r.alt(pats, "=")}}
}

func (r *reader) prefixClause(name string) api.Decl {
	pats := r.apats()
	return api.Decl{Op: api.DBind, Name: name, Alts: []api.Alt{r.alt(pats, "=")}}
}

func (r *reader) fixity() api.Decl {
	side := r.take(api.TWord)
	if len(r.text()) != 1 {
		r.wrong()
	}
	n := r.number()
	return api.Decl{Op: api.DFix, S: side, N: n, Name: r.take(api.TOp)}
}

func (r *reader) data() api.Decl { return r.dataOrNew(api.DData) }

func (r *reader) newtype() api.Decl { return r.dataOrNew(api.DNew) }

func (r *reader) dataOrNew(op int) api.Decl {
	r.take(api.TWord)
	d := api.Decl{Op: op, Name: r.capital()}
	r.expect(":")
	d.Type = r.typ()
	if r.accept("deriving") {
		r.expect("(")
		d.Deriving = list(r, ",", r.capital)
		r.expect(")")
	}
	d.Cons = block(r, r.con)
	return d
}

func (r *reader) con() api.Con {
	c := api.Con{Name: r.capital()}
	r.expect(":")
	var binders []api.Binder
	if r.text() == "forall" {
		binders = r.binders()
	}
	if r.text() == "{" {
		c.Type, c.Fields = r.fields()
	} else {
		c.Type = r.typ()
	}
	c.Type = forAll(binders, c.Type)
	return c
}

// fields reads the fields of a constructor and its result, and returns the function from the ones to the other.
func (r *reader) fields() (api.Type, []string) {
	r.expect("{")
	l := list(r, ",", r.field)
	r.expect("}")
	r.expect("->")
	t := r.typ()
	names := make([]string, len(l))
	for i := len(l) - 1; i >= 0; i-- {
		names[i] = l[i].Name
		t = function(l[i].Type, t)
	}
	return t, names
}

func (r *reader) field() api.Sig {
	name := r.small()
	r.expect(":")
	return api.Sig{Name: name, Type: r.typ()}
}

func (r *reader) family() api.Decl {
	r.expect("family")
	d := api.Decl{Op: api.DFamily, Name: r.capital()}
	r.expect(":")
	d.Type = r.typ()
	d.Eqs = block(r, r.equation)
	return d
}

func (r *reader) equation() api.Eq {
	left := r.btype()
	r.expect("=")
	return api.Eq{Left: left, Right: r.typ()}
}

func (r *reader) class() api.Decl {
	r.expect("class")
	d := api.Decl{Op: api.DClass}
	for {
		var c api.Type
		context := func() {
			c = r.btype()
			r.expect("=>")
		}
		if !r.try(context) {
			break
		}
		d.Context = append(d.Context, c)
	}
	d.Name = r.capital()
	for r.text() == "(" {
		d.Vars = append(d.Vars, r.classVariable())
	}
	if r.accept("|") {
		d.Deps = list(r, ",", r.dep)
	}
	d.Sigs = block(r, r.sig)
	return d
}

func (r *reader) classVariable() api.Binder {
	r.expect("(")
	b := api.Binder{Name: r.small(), Kind: constant("Type")}
	if r.accept(":") {
		b.Kind = r.typ()
	}
	r.expect(")")
	return b
}

func (r *reader) dep() api.Dep {
	from := r.smalls()
	r.expect("->")
	return api.Dep{From: from, To: r.smalls()}
}

func (r *reader) smalls() []string {
	l := []string{r.small()}
	for r.kind() == api.TVar {
		l = append(l, r.small())
	}
	return l
}

func (r *reader) sig() api.Sig {
	name := r.variable()
	r.expect(":")
	return api.Sig{Name: name, Type: r.typ()}
}

func (r *reader) instance() api.Decl {
	r.expect("instance")
	t := r.typ()
	return api.Decl{Op: api.DInst, Type: t, Decls: r.declBlock(r.clause)}
}
