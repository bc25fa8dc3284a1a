package syntax

import (
	"math/rand"
	"reflect"
	"testing"

	"damask/api"
	"damask/lexis"
)

// maker makes random parts that are well built.
type maker struct{ *rand.Rand }

func (m maker) one(l ...string) string { return l[m.Intn(len(l))] }

func (m maker) small() string   { return m.one("x", "y", "f'") }
func (m maker) capital() string { return m.one("A", "B_", "C'") }
func (m maker) op() string      { return m.one("+", "==", "|>") }
func (m maker) variable() string {
	return m.one(m.small(), m.small(), m.op())
}

func some[T any](m maker, least int, make func() T) []T {
	var l []T
	for range least + m.Intn(3) {
		l = append(l, make())
	}
	return l
}

func (m maker) typ(depth int) api.Type {
	switch n := m.Intn(9); {
	case depth <= 0 || n < 2:
		return api.Type{Op: api.YCon, S: m.one("A", "'B", "->")}
	case n < 4:
		return api.Type{Op: api.YName, S: m.small()}
	case n == 4:
		return api.Type{Op: api.YAll, S: m.small(), Args: []api.Type{m.typ(depth - 1), m.typ(depth - 1)}}
	case n == 5:
		return api.Type{Op: api.YImp, Args: []api.Type{m.typ(depth - 1), m.typ(depth - 1)}}
	case n == 6:
		return applied(constant("~"), m.typ(depth-1), m.typ(depth-1))
	case n == 7:
		return function(m.typ(depth-1), m.typ(depth-1))
	}
	return applied(m.typ(depth-1), m.typ(depth-1))
}

func (m maker) pat(depth int) api.Pat {
	in := func() api.Pat { return m.pat(depth - 1) }
	switch n := m.Intn(8); {
	case depth <= 0 || n == 0:
		return api.Pat{Op: api.PVar, S: m.small()}
	case n == 1:
		return api.Pat{Op: api.PWild}
	case n == 2:
		return api.Pat{Op: api.PInt, N: m.Intn(3)}
	case n == 3:
		return api.Pat{Op: api.PAs, S: m.small(), Args: []api.Pat{in()}}
	case n == 4:
		return api.Pat{Op: api.PBang, Args: []api.Pat{in()}}
	case n == 5:
		return api.Pat{Op: api.PLazy, Args: []api.Pat{in()}}
	}
	return api.Pat{Op: api.PCon, S: m.capital(), Args: some(m, 0, in)}
}

func (m maker) expr(depth int) api.Expr {
	if depth <= 0 {
		return api.Expr{Op: api.XInt, N: m.Intn(12)}
	}
	in := func() api.Expr { return m.expr(depth - 1) }
	e := api.Expr{Op: api.XVar + m.Intn(api.XDo)}
	switch e.Op {
	case api.XVar:
		e.S = m.variable()
	case api.XCon:
		e.S = m.capital()
	case api.XInt:
		e.N = m.Intn(12)
	case api.XApp:
		e.Args = []api.Expr{in(), in()}
	case api.XAt, api.XAnn:
		e.Args, e.Types = []api.Expr{in()}, []api.Type{m.typ(2)}
	case api.XLam:
		e.Pats, e.Args = some(m, 1, func() api.Pat { return m.pat(2) }), []api.Expr{in()}
	case api.XLet:
		e.Decls, e.Args = m.locals(depth-1), []api.Expr{in()}
	case api.XCase:
		e.Args = []api.Expr{in()}
		e.Alts = some(m, 0, func() api.Alt { return m.alt(depth-1, []api.Pat{m.pat(2)}) })
	case api.XIf:
		e.Args = []api.Expr{in(), in(), in()}
	case api.XRec:
		e.S, e.Fields = m.capital(), some(m, 1, m.small)
	case api.XUpd:
		e.Fields, e.Args = some(m, 1, m.small), []api.Expr{in()}
	case api.XOps:
		e.Fields, e.Args = some(m, 1, m.op), []api.Expr{in()}
	case api.XDo:
		e.Stmts = some(m, 0, func() api.Stmt { return m.stmt(depth - 1) })
	}
	for range e.Fields {
		e.Args = append(e.Args, in())
	}
	return e
}

func (m maker) stmt(depth int) api.Stmt {
	switch m.Intn(3) {
	case 0:
		return api.Stmt{Let: true, Decls: m.locals(depth)}
	case 1:
		return api.Stmt{Pat: []api.Pat{m.pat(2)}, Expr: m.expr(depth)}
	}
	return api.Stmt{Expr: m.expr(depth)}
}

func (m maker) alt(depth int, pats []api.Pat) api.Alt {
	a := api.Alt{Pats: pats, Rhs: []api.Guard{{Then: m.expr(depth)}}}
	if m.Intn(2) == 0 {
		a.Rhs = some(m, 1, func() api.Guard { return api.Guard{If: []api.Expr{m.expr(depth)}, Then: m.expr(depth)} })
	}
	if m.Intn(3) == 0 {
		a.Where = m.locals(depth)
	}
	return a
}

func (m maker) bind(depth int) api.Decl {
	alt := func() api.Alt { return m.alt(depth, some(m, 0, func() api.Pat { return m.pat(2) })) }
	return api.Decl{Op: api.DBind, Name: m.variable(), Alts: some(m, 1, alt)}
}

func (m maker) list(make func() api.Decl) []api.Decl {
	var l []api.Decl
	for range m.Intn(4) {
		l = joined(l, make())
	}
	return l
}

func (m maker) locals(depth int) []api.Decl {
	return m.list(func() api.Decl { return m.local(depth) })
}

func (m maker) local(depth int) api.Decl {
	switch m.Intn(4) {
	case 0:
		return api.Decl{Op: api.DSig, Name: m.variable(), Type: m.typ(3)}
	case 1:
		return api.Decl{Op: api.DFix, Name: m.op(), S: m.one("infix", "infixl", "infixr"), N: m.Intn(10)}
	}
	return m.bind(depth)
}

func (m maker) con() api.Con {
	c := api.Con{Name: m.capital(), Type: m.typ(3)}
	if m.Intn(2) == 0 {
		c.Fields = some(m, 1, m.small)
		for range c.Fields {
			c.Type = function(m.typ(2), c.Type)
		}
		c.Type = forAll(some(m, 0, m.binder), c.Type)
	}
	return c
}

func (m maker) binder() api.Binder { return api.Binder{Name: m.small(), Kind: m.typ(2)} }

func (m maker) decl() api.Decl {
	typ := func() api.Type { return m.typ(3) }
	switch m.Intn(7) {
	case 0:
		return api.Decl{Op: api.DData + m.Intn(2), Name: m.capital(), Type: typ(), Cons: some(m, 0, m.con), Deriving: some(m, 0, m.capital)}
	case 1:
		eq := func() api.Eq { return api.Eq{Left: m.typ(3), Right: m.typ(3)} }
		return api.Decl{Op: api.DFamily, Name: m.capital(), Type: typ(), Eqs: some(m, 0, eq)}
	case 2:
		dep := func() api.Dep { return api.Dep{From: some(m, 1, m.small), To: some(m, 1, m.small)} }
		sig := func() api.Sig { return api.Sig{Name: m.variable(), Type: m.typ(3)} }
		return api.Decl{Op: api.DClass, Name: m.capital(), Vars: some(m, 0, m.binder), Context: some(m, 0, typ), Deps: some(m, 0, dep), Sigs: some(m, 0, sig)}
	case 3:
		return api.Decl{Op: api.DInst, Type: typ(), Decls: m.list(func() api.Decl { return m.bind(2) })}
	}
	return m.local(1 + m.Intn(3))
}

func (m maker) module() api.Module {
	x := api.Module{Name: m.capital(), All: m.Intn(2) == 0}
	name := func() string { return m.one(m.variable(), m.capital()) }
	if !x.All {
		x.Exports = some(m, 0, name)
	}
	if m.Intn(2) == 0 {
		x.Imports = []api.Import{{Module: m.capital(), All: true}, {Module: m.capital(), Names: some(m, 0, name)}}
	}
	x.Decls = m.list(m.decl)
	return x
}

// places collects what can be changed in a value.
func places(v reflect.Value, found *[]reflect.Value) {
	switch v.Kind() {
	case reflect.Struct:
		for i := range v.NumField() {
			places(v.Field(i), found)
		}
	case reflect.Slice:
		*found = append(*found, v)
		for i := range v.Len() {
			places(v.Index(i), found)
		}
	default:
		*found = append(*found, v)
	}
}

// change changes one thing in a value.
func (m maker) change(v reflect.Value) {
	var l []reflect.Value
	places(v, &l)
	p := l[m.Intn(len(l))]
	switch p.Kind() {
	case reflect.String:
		p.SetString(m.one("", "x", "A", "+", "'A", "->", "~", "let", "'", "''A", "_", "1", "infix", "A long name", "averylongnameqqqqq", "--"))
	case reflect.Int:
		p.SetInt(int64(m.Intn(18) - 2))
	case reflect.Bool:
		p.SetBool(!p.Bool())
	case reflect.Slice:
		n := p.Len()
		switch r := m.Intn(4); {
		case n > 0 && r == 0:
			p.Set(p.Slice(0, n-1))
		case n > 0 && r == 1:
			p.Set(reflect.Append(p.Slice3(0, n, n), p.Index(m.Intn(n))))
		case n > 1 && r == 2:
			p.Set(p.Slice(1, n))
		default:
			p.Set(reflect.Append(p.Slice3(0, n, n), reflect.Zero(p.Type().Elem())))
		}
	}
}

// TestWellBuilt holds Check against the reader: a module is well built just if its text is read as it is.
func TestWellBuilt(t *testing.T) {
	m := maker{rand.New(rand.NewSource(3))}
	count := map[api.Errno]int{}
	for i := range 3 * rounds {
		x := m.module()
		if i%3 > 0 {
			m.change(reflect.ValueOf(&x).Elem())
		}
		text := moduleText(x)
		l, at, e := Modules(text)
		if e == api.ErrFull {
			continue
		}
		got := Check(x)
		count[got]++
		again := e == api.OK && len(l) == 1 && Same(l[0], x)
		if i%3 == 0 && got != api.OK || again != (got == api.OK) {
			t.Fatalf("%v, read %d %v\n%s\n%+v", got, at, e, text, x)
		}
	}
	if count[api.OK] < rounds || count[api.ErrArg] < rounds/2 || count[api.ErrFull] > 0 {
		t.Error("modules are too much alike:", count)
	}
}

// TestChanged holds Same against a deep comparison.
func TestChanged(t *testing.T) {
	m := maker{rand.New(rand.NewSource(4))}
	for range 300 {
		seed := m.Int63()
		x, y := maker{rand.New(rand.NewSource(seed))}.module(), maker{rand.New(rand.NewSource(seed))}.module()
		if !Same(x, y) {
			t.Fatal("not the same:", moduleText(x))
		}
		before := moduleText(y)
		m.change(reflect.ValueOf(&y).Elem())
		if Same(x, y) != reflect.DeepEqual(x, y) || Same(y, x) != Same(x, y) {
			t.Fatalf("%+v\n%+v", x, y)
		}
		if moduleText(x) != before {
			t.Fatal("memory is shared")
		}
	}
}

// TestBlanks holds the second part of P2.3 against modules: what stands between tokens does not matter.
func TestBlanks(t *testing.T) {
	m := maker{rand.New(rand.NewSource(5))}
	for range 300 {
		text := moduleText(m.module())
		tokens, _, _ := lexis.Tokens(text)
		spread := ""
		for _, x := range tokens {
			spread += x.Text
			if x.Text != "'" { // which stands directly before its name
				spread += m.one(" ", "\n", "\t\r ", " -- } ; \"\n", " --\n\n")
			}
		}
		l, _, e := Modules(text)
		l2, _, e2 := Modules(spread)
		if len(spread) > api.MaxSource || e != api.OK {
			continue
		}
		if e2 != api.OK || len(l2) != 1 || !Same(l[0], l2[0]) {
			t.Fatal(text, spread)
		}
	}
}
