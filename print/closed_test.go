package print

import (
	"testing"

	"damask/api"
	"damask/internal/sample"
	"damask/scope"
	"damask/syntax"
	"damask/types"
)

// closedType makes a type of foralls, arrows and constants, within some foralls.
func closedType(m sample.Maker, depth, around int) api.Type {
	switch n := m.Choose(6); {
	case depth > 0 && n < 2:
		return fun(closedType(m, depth-1, around), closedType(m, depth-1, around))
	case depth > 0 && n < 4:
		return all(closedType(m, depth-1, around), closedType(m, depth-1, around+1))
	case n < 5 && around > 0:
		return bound(m.Choose(around))
	}
	return con(m.One("Int", "Type", "'True"))
}

// nameless leaves out the names of foralls, which closed types have none of.
func nameless(t api.Type) api.Type {
	made := api.Type{Op: t.Op, N: t.N, S: t.S}
	if t.Op == api.YAll {
		made.S = ""
	}
	for _, a := range t.Args {
		made.Args = append(made.Args, nameless(a))
	}
	return made
}

// TestClosedAgain: a closed type is read again from its text, and resolved.
func TestClosedAgain(t *testing.T) {
	m := newMaker(4)
	for i := range rounds {
		x := closedType(m, i%7, 0)
		text, e := Closed(x)
		if e != api.OK || !inForm(text) {
			t.Fatal(e, text)
		}
		y, _, e := syntax.Type(text)
		if e == api.ErrFull { // two foralls in one are still two types
			continue
		}
		decls := []api.Decl{{Op: api.DSig, Name: "x", Type: y}, {Op: api.DBind, Name: "x", Alts: []api.Alt{{Rhs: []api.Guard{{Then: api.Expr{Op: api.XInt}}}}}}}
		p, e2 := scope.Resolve([]api.Module{{Name: "M", All: true, Decls: decls}})
		if e != api.OK || e2 != api.OK || !types.Same(nameless(p.Decls[0].Type), x) {
			t.Fatal(e, e2, text)
		}
	}
}
