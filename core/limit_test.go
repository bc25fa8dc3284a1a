package core

import (
	"slices"
	"testing"

	"damask/api"
	"damask/internal/problem"
	"damask/internal/text"
	"damask/types"
)

func reflOf(t api.Type) api.Co { return api.Co{Op: api.ORefl, Types: []api.Type{t}} }

func castOf(c api.Core) api.Core {
	return api.Core{Op: api.CCast, Args: []api.Core{c}, Co: []api.Co{reflOf(named("Int"))}}
}

func nestedCasts(n int) api.Core {
	c := api.Core{Op: api.CInt}
	for range n {
		c = castOf(c)
	}
	return c
}

func nestedSyms(n int) api.Co {
	o := reflOf(named("Int"))
	for range n {
		o = api.Co{Op: api.OSym, Args: []api.Co{o}}
	}
	return o
}

// wholeOf is a term with so many terms, coercions and types, at least 401 and one more for each step of 3 over it.
func wholeOf(nodes int) api.Core {
	made := api.Core{Op: api.CCase, Types: []api.Type{named("Int")}, Args: []api.Core{{Op: api.CInt}}}
	left := nodes - 3
	for n := range 399 {
		body := api.Core{Op: api.CInt, N: n}
		for left--; left > 399 && body.N >= 0 && sizeOf(&body).terms < 12; left -= 3 {
			body = castOf(body)
		}
		made.Alts = append(made.Alts, api.CoreAlt{Op: api.AInt, N: n, Body: body})
	}
	last := api.Core{Op: api.CCast, Args: []api.Core{{Op: api.CInt}}, Co: []api.Co{nestedSyms(left - 4)}}
	made.Alts = append(made.Alts, api.CoreAlt{Op: api.AAny, Body: last})
	return made
}

// TestProper: so large, so deep and so long terms can be, and no more.
func TestProper(t *testing.T) {
	e := problem.Env(declared)
	for n, want := range map[int]api.Errno{11999: api.OK, 12000: api.OK, 12001: api.ErrArg} {
		c := wholeOf(n)
		if l := sizeOf(&c); l.terms+l.cos+l.types != n {
			t.Fatal(l, n)
		}
		checkAll(t, "nodes", e, c, want)
	}
	for n, want := range map[int]api.Errno{398: api.OK, 399: api.OK, 400: api.ErrArg} {
		checkAll(t, "casts", e, nestedCasts(n), want)
	}
	for n, want := range map[int]api.Errno{397: api.OK, 398: api.OK, 399: api.ErrArg} {
		checkAll(t, "coercions in a term", e, api.Core{Op: api.CCast, Args: []api.Core{{Op: api.CInt}}, Co: []api.Co{nestedSyms(n)}}, want)
	}
	deepest := api.Core{Op: api.CInt}
	for range 398 {
		deepest = api.Core{Op: api.CCase, Types: []api.Type{named("Int")}, Args: []api.Core{{Op: api.CInt}}, Alts: []api.CoreAlt{{Op: api.AAny, Body: deepest}}}
	}
	checkAll(t, "cases", e, deepest, api.OK)
	checkAll(t, "cases and a cast", e, castOf(deepest), api.OK)
	checkAll(t, "cases and casts", e, castOf(castOf(deepest)), api.ErrArg)
	// types count, but not how deep they are
	typ := text.Deep(40)
	checkAll(t, "a type in the deepest coercion", e, api.Core{Op: api.CCast, Args: []api.Core{{Op: api.CInt}}, Co: []api.Co{{Op: api.OTrans, Args: []api.Co{nestedSyms(396), reflOf(typ)}}}}, api.ErrCore)
	for n, want := range map[int]api.Errno{397: api.OK, 399: api.OK, 400: api.ErrArg} {
		let := api.Core{Op: api.CLet}
		for range n {
			let.Types, let.Args = append(let.Types, named("Int")), append(let.Args, api.Core{Op: api.CInt})
		}
		let.Args = append(let.Args, api.Core{Op: api.CVar, N: n - 1})
		checkAll(t, "variables of a let", e, let, want)
		alts := api.Core{Op: api.CCase, Types: []api.Type{named("Int")}, Args: []api.Core{{Op: api.CInt}}}
		for i := range n {
			alts.Alts = append(alts.Alts, api.CoreAlt{Op: api.AInt, N: i, Body: api.Core{Op: api.CInt}})
		}
		alts.Alts = append(alts.Alts, api.CoreAlt{Op: api.AAny, Body: api.Core{Op: api.CInt}})
		checkAll(t, "alternatives", e, alts, want)
	}
	for n, want := range map[int]api.Errno{400: api.ErrCore, 401: api.ErrArg} {
		checkAll(t, "types of a new type", e, api.Core{Op: api.CNew, S: "Age", Types: slices.Repeat([]api.Type{named("Int")}, n), Args: []api.Core{{Op: api.CInt}}}, want)
		checkAll(t, "arguments of a family", e, api.Core{Op: api.CCast, Args: []api.Core{{Op: api.CInt}}, Co: []api.Co{{Op: api.OFam, S: "Elem", Args: slices.Repeat([]api.Co{reflOf(named("Int"))}, n)}}}, want)
		checkAll(t, "types of an equation", e, api.Core{Op: api.CCast, Args: []api.Core{{Op: api.CInt}}, Co: []api.Co{{Op: api.OAxiom, S: "Elem", Types: slices.Repeat([]api.Type{named("Int")}, n)}}}, want)
	}
}

// checkAll holds what all functions say of a term against what Type should say: the others know only whether it is proper.
func checkAll(t *testing.T, name string, e api.Env, c api.Core, want api.Errno) {
	t.Helper()
	proper := api.OK
	if want == api.ErrArg {
		proper = api.ErrArg
	}
	typ, e1 := Type(e, nil, nil, nil, nil, c)
	terms, cos, ofTypes, e2 := Size(c)
	freeTypes, freeCos, freeVars, e3 := Free(e, c)
	s, e4 := Text(c)
	at, e5 := Check(api.CoreProgram{Env: e, Globals: []api.Global{{Name: "x", Type: named("Int"), Term: c}}})
	if e1 != want || (e1 == api.OK) != (typ.Op != 0) || e5 != want || (at == 1) != (want == api.OK) {
		t.Error(name, showType(typ), e1, at, e5)
	}
	if e2 != proper || e3 != proper && e3 != api.ErrCore || e4 != proper || (s == "") != (proper != api.OK) {
		t.Error(name, e2, e3, e4)
	}
	if proper != api.OK && (terms != 0 || cos != 0 || ofTypes != 0 || freeTypes != nil || freeCos != nil || freeVars != nil) {
		t.Error(name, "a result beside an error")
	}
	if !Same(c, deep(c)) {
		t.Error(name, "not the same")
	}
}

// checkCoercion is the same for coercions.
func checkCoercion(t *testing.T, name string, e api.Env, o api.Co, want api.Errno) {
	t.Helper()
	proper := api.OK
	if want == api.ErrArg {
		proper = api.ErrArg
	}
	a, b, e1 := Coercion(e, nil, nil, o)
	trivial, e2 := Trivial(o)
	made, e3 := Short(o)
	if e1 != want || e2 != proper || e3 != proper || (e1 == api.OK) != (a.Op != 0) || (e1 == api.OK) != (b.Op != 0) || proper != api.OK && (trivial || made.Op != 0) {
		t.Error(name, e1, e2, trivial, e3, made.Op)
	}
}

func TestProperCoercions(t *testing.T) {
	e := problem.Env(declared)
	for n, want := range map[int]api.Errno{398: api.OK, 399: api.OK, 400: api.ErrArg} {
		checkCoercion(t, "syms", e, nestedSyms(n), want)
	}
	balanced := reflOf(named("Int"))
	for range 12 { // 2^12 of them: with the types 3 * 2^12 - 1
		balanced = api.Co{Op: api.OTrans, Args: []api.Co{balanced, balanced}}
	}
	checkCoercion(t, "too many", e, balanced, api.ErrArg)
	checkCoercion(t, "half as many", e, balanced.Args[0], api.OK)
	for last, want := range map[int]api.Errno{26: api.ErrCore, 27: api.ErrCore, 28: api.ErrArg} {
		o := api.Co{Op: api.OFam, S: "Elem", Args: append(slices.Repeat([]api.Co{nestedSyms(28)}, 399), nestedSyms(last))}
		if n := nodesOf(o); n != 12000+last-27 {
			t.Fatal(n)
		}
		checkCoercion(t, "many", e, o, want)
	}
	for _, o := range []api.Co{
		{}, {Op: 12}, {Op: -1}, {Op: api.ORefl}, {Op: api.ORefl, Types: []api.Type{named("Int"), named("Int")}}, {Op: api.ORefl, N: 1, Types: []api.Type{named("Int")}}, {Op: api.ORefl, S: "x", Types: []api.Type{named("Int")}}, {Op: api.ORefl, Types: []api.Type{{}}}, {Op: api.ORefl, Types: []api.Type{named("Int")}, Args: []api.Co{nestedSyms(0)}}, {Op: api.ORefl, Types: []api.Type{text.Deep(41)}},
		{Op: api.OSym}, {Op: api.OSym, Args: []api.Co{{}}}, {Op: api.OSym, Types: []api.Type{named("Int")}, Args: []api.Co{nestedSyms(0)}}, {Op: api.OSym, Args: []api.Co{nestedSyms(0), nestedSyms(0)}}, {Op: api.OTrans, Args: []api.Co{nestedSyms(0)}}, {Op: api.OApp, Args: []api.Co{nestedSyms(0)}}, {Op: api.OImp, Args: []api.Co{nestedSyms(0)}}, {Op: api.OImp, Args: []api.Co{nestedSyms(0), nestedSyms(0), nestedSyms(0)}},
		{Op: api.OAll, Args: []api.Co{nestedSyms(0)}}, {Op: api.OAll, Types: []api.Type{named("Type")}}, {Op: api.OVar, N: -1}, {Op: api.OVar, S: "x"}, {Op: api.OVar, Types: []api.Type{named("Int")}}, {Op: api.OVar, Args: []api.Co{nestedSyms(0)}}, {Op: api.OAxiom, N: 0}, {Op: api.OAxiom, S: "Elem", N: -1}, {Op: api.OAxiom, S: "Elem", Args: []api.Co{nestedSyms(0)}}, {Op: api.OAxiom, S: "Elem", Types: []api.Type{{}}},
		{Op: api.OLeft}, {Op: api.ORight}, {Op: api.OLeft, N: 1, Args: []api.Co{nestedSyms(0)}}, {Op: api.ORight, S: "x", Args: []api.Co{nestedSyms(0)}}, {Op: api.OFam}, {Op: api.OFam, S: "Elem", N: 1}, {Op: api.OFam, S: "Elem", Types: []api.Type{named("Int")}}, {Op: api.OFam, S: "Elem", Args: []api.Co{{}}},
	} {
		checkCoercion(t, "not proper", e, o, api.ErrArg)
		checkAll(t, "not proper", e, api.Core{Op: api.CCast, Args: []api.Core{{Op: api.CInt}}, Co: []api.Co{o}}, api.ErrArg)
	}
}

func nodesOf(o api.Co) int {
	var n sizes
	n.co(&o)
	return n.cos + n.types
}

func TestNotProper(t *testing.T) {
	e := problem.Env(declared)
	x, i, o := api.Core{Op: api.CInt}, []api.Type{named("Int")}, []api.Co{nestedSyms(0)}
	one, two := []api.Core{x}, []api.Core{x, x}
	alts := []api.CoreAlt{{Op: api.AAny, Body: x}}
	for n, c := range []api.Core{
		{}, {Op: 16}, {Op: -1}, {Op: api.CVar, N: -1}, {Op: api.CVar, S: "x"}, {Op: api.CVar, Types: i}, {Op: api.CVar, Args: one}, {Op: api.CVar, Alts: alts}, {Op: api.CVar, Co: o},
		{Op: api.CGlob}, {Op: api.CGlob, S: "x", N: 1}, {Op: api.CGlob, S: "x", Args: one}, {Op: api.CInt, S: "x"}, {Op: api.CInt, Args: one}, {Op: api.CInt, Alts: alts}, {Op: api.CCon}, {Op: api.CCon, S: "Nil", N: 1}, {Op: api.CCon, S: "Nil", Types: i},
		{Op: api.CLam, Types: i}, {Op: api.CLam, Args: one}, {Op: api.CLam, Types: i, Args: two}, {Op: api.CLam, Types: append(i, i...), Args: one}, {Op: api.CLam, Types: i, Args: one, N: 1}, {Op: api.CLam, Types: i, Args: one, S: "x"}, {Op: api.CLam, Types: i, Args: one, Co: o}, {Op: api.CLam, Types: i, Args: one, Alts: alts}, {Op: api.CLam, Types: []api.Type{{}}, Args: one}, {Op: api.CLam, Types: i, Args: []api.Core{{}}},
		{Op: api.CApp, Args: one}, {Op: api.CApp, Args: append(two, x)}, {Op: api.CApp, Args: two, Types: i}, {Op: api.CTLam, Args: one}, {Op: api.CTLam, Types: i}, {Op: api.CTApp, Args: one}, {Op: api.CTApp, Types: i}, {Op: api.CTApp, Types: i, Args: two},
		{Op: api.CQLam, Types: i, Args: one}, {Op: api.CQLam, Types: append(i, i...)}, {Op: api.CQApp, Args: one}, {Op: api.CQApp, Co: o}, {Op: api.CQApp, Args: one, Co: append(o, o...)}, {Op: api.CQApp, Args: one, Co: o, Types: i}, {Op: api.CLet}, {Op: api.CLet, Types: i, Args: one}, {Op: api.CLet, Args: two}, {Op: api.CLet, Args: one, N: 1}, {Op: api.CLet, Args: one, Co: o},
		{Op: api.CCase, Args: one, Alts: alts}, {Op: api.CCase, Types: i, Alts: alts}, {Op: api.CCase, Types: i, Args: two, Alts: alts}, {Op: api.CCase, Types: i, Args: one, Alts: alts, N: 1}, {Op: api.CCase, Types: i, Args: one, Alts: []api.CoreAlt{{}}}, {Op: api.CCase, Types: i, Args: one, Alts: []api.CoreAlt{{Op: 4, Body: x}}}, {Op: api.CCase, Types: i, Args: one, Alts: []api.CoreAlt{{Op: api.AAny}}}, {Op: api.CCase, Types: i, Args: one, Alts: []api.CoreAlt{{Op: api.AAny, N: 1, Body: x}}}, {Op: api.CCase, Types: i, Args: one, Alts: []api.CoreAlt{{Op: api.AAny, S: "x", Body: x}}}, {Op: api.CCase, Types: i, Args: one, Alts: []api.CoreAlt{{Op: api.ACon, Body: x}}}, {Op: api.CCase, Types: i, Args: one, Alts: []api.CoreAlt{{Op: api.ACon, S: "True", N: 1, Body: x}}}, {Op: api.CCase, Types: i, Args: one, Alts: []api.CoreAlt{{Op: api.AInt, S: "x", Body: x}}},
		{Op: api.CCast, Args: one}, {Op: api.CCast, Co: o}, {Op: api.CCast, Args: one, Co: o, S: "x"}, {Op: api.CCast, Args: one, Co: o, N: 1}, {Op: api.CCast, Args: one, Co: []api.Co{{}}}, {Op: api.CNew, Args: one}, {Op: api.CNew, S: "Age"}, {Op: api.CNew, S: "Age", Args: two}, {Op: api.CNew, S: "Age", Args: one, N: 1}, {Op: api.CNew, S: "Age", Args: one, Co: o}, {Op: api.COld, Args: one}, {Op: api.COld, S: "Age"}, {Op: api.COld, S: "Age", Args: one, Alts: alts},
	} {
		checkAll(t, "not proper: "+string(rune('0'+n%10)), e, c, api.ErrArg)
		checkAll(t, "not proper within", e, api.Core{Op: api.CApp, Args: []api.Core{x, c}}, api.ErrArg)
	}
	for _, c := range []api.Core{{Op: api.CVar, N: 1 << 62}, {Op: api.CInt, N: -1 << 63}, {Op: api.CGlob, S: "no name at all, and longer than any that there could be"}, {Op: api.CLet, Args: one}, {Op: api.CCase, Types: i, Args: one}} {
		if !isProper(&c) {
			t.Error(c)
		}
	}
}

// TestContexts: lists around a term can be too long, or not proper; what is right in them is another question.
func TestContexts(t *testing.T) {
	e := problem.Env(declared)
	five := api.Core{Op: api.CInt}
	kinds := func(n int) []api.Type { return slices.Repeat([]api.Type{named("Type")}, n) }
	pairs := func(n int) []api.Eq { return slices.Repeat([]api.Eq{{Left: named("Int"), Right: named("Bool")}}, n) }
	sigs := func(n int) []api.Sig { return slices.Repeat([]api.Sig{{Name: "x", Type: named("Int")}}, n) }
	for i, row := range []struct {
		sigs  []api.Sig
		kinds []api.Type
		cos   []api.Eq
		vars  []api.Type
		want  api.Errno
	}{
		{nil, nil, nil, nil, api.OK}, {sigs(4000), nil, nil, nil, api.OK}, {sigs(4001), nil, nil, nil, api.ErrArg}, {nil, kinds(40), nil, nil, api.OK}, {nil, kinds(401), nil, nil, api.ErrArg}, {nil, nil, pairs(400), nil, api.OK}, {nil, nil, pairs(401), nil, api.ErrArg}, {nil, nil, nil, kinds(401), api.ErrArg}, {nil, nil, nil, slices.Repeat([]api.Type{named("Int")}, 400), api.OK}, {nil, nil, nil, slices.Repeat([]api.Type{named("Int")}, 401), api.ErrArg},
		{[]api.Sig{{}}, nil, nil, nil, api.ErrArg}, {[]api.Sig{{Type: text.Deep(41)}}, nil, nil, nil, api.ErrArg}, {[]api.Sig{{Type: named("List")}}, nil, nil, nil, api.OK}, {nil, []api.Type{{}}, nil, nil, api.ErrArg}, {nil, nil, []api.Eq{{}}, nil, api.ErrArg}, {nil, nil, []api.Eq{{Left: named("Int")}}, nil, api.ErrArg}, {nil, nil, []api.Eq{{Right: named("Int")}}, nil, api.ErrArg}, {nil, nil, nil, []api.Type{{}}, api.ErrArg},
		{nil, []api.Type{named("Int"), {Op: api.YVar}}, nil, nil, api.ErrCore}, {nil, []api.Type{{Op: api.YVar}}, nil, nil, api.ErrCore}, {[]api.Sig{{}}, []api.Type{{Op: api.YVar}}, nil, nil, api.ErrArg},
		{nil, kinds(400), nil, nil, api.ErrCore}, // layer 6 has contexts of MaxDepth kinds at most
	} {
		typ, err := Type(e, row.sigs, row.kinds, row.cos, row.vars, five)
		if err != row.want || (err == api.OK) != types.Same(typ, named("Int")) {
			t.Error(i, err)
		}
		if row.sigs == nil && row.vars == nil {
			a, b, err := Coercion(e, row.kinds, row.cos, nestedSyms(0))
			if err != row.want || (err == api.OK) != (a.Op != 0 && b.Op != 0) {
				t.Error(i, err)
			}
		}
	}
}

// TestTooLarge: types on the way can be too large.
func TestTooLarge(t *testing.T) {
	e := problem.Env(declared + "class Many (a) { " + manyMethods("m", 39) + " }; class Most (a) { " + manyMethods("n", 36) + " };")
	lists := named("Int") // 38 deep
	for range 37 {
		lists = api.Type{Op: api.YApp, Args: []api.Type{named("List"), lists}}
	}
	list := func(t api.Type) api.Type { return api.Type{Op: api.YApp, Args: []api.Type{named("List"), t}} }
	id := api.Core{Op: api.CGlob, S: "id"}
	refl := []api.Co{reflOf(lists)}
	wide := text.Wide(8) // of 511 nodes, and no kind
	for i, row := range []struct {
		c    api.Core
		want api.Errno
	}{
		{nestedLams(38), api.OK}, {nestedLams(39), api.ErrFull}, {at(id, lists), api.OK}, {at(id, list(lists)), api.ErrFull}, {at(con("Nil"), list(lists)), api.OK}, {con("Many%"), api.ErrFull}, {con("Most%"), api.OK}, {at(con("Cons"), lists), api.ErrFull}, {at(con("Nil"), list(list(lists))), api.ErrFull},
		{api.Core{Op: api.CLam, Types: []api.Type{list(lists)}, Args: []api.Core{{Op: api.CVar}}}, api.ErrFull}, {api.Core{Op: api.CLam, Types: []api.Type{lists}, Args: []api.Core{{Op: api.CVar}}}, api.OK}, {api.Core{Op: api.CQLam, Types: []api.Type{list(list(lists)), lists}, Args: []api.Core{{Op: api.CInt}}}, api.ErrFull}, {api.Core{Op: api.CTLam, Types: []api.Type{named("Type")}, Args: []api.Core{nestedLams(38)}}, api.ErrFull}, {api.Core{Op: api.CTLam, Types: []api.Type{named("Type")}, Args: []api.Core{nestedLams(37)}}, api.OK},
		{api.Core{Op: api.CCast, Args: []api.Core{at(api.Core{Op: api.CGlob, S: "any"}, lists)}, Co: refl}, api.OK}, {api.Core{Op: api.CLam, Types: []api.Type{wide}, Args: []api.Core{{Op: api.CInt}}}, api.ErrCore},
	} {
		if typ, err := Type(e, makerSigs(), nil, nil, nil, row.c); err != row.want || (err == api.OK) != (typ.Op != 0) {
			t.Error(i, err)
		}
	}
	for i, row := range []struct {
		o    api.Co
		want api.Errno
	}{
		{api.Co{Op: api.OApp, Args: []api.Co{reflOf(named("List")), reflOf(list(lists))}}, api.OK}, {api.Co{Op: api.OApp, Args: []api.Co{reflOf(named("List")), reflOf(list(list(lists)))}}, api.ErrFull}, {api.Co{Op: api.OFam, S: "Elem", Args: []api.Co{reflOf(list(list(lists)))}}, api.ErrFull}, {api.Co{Op: api.OFam, S: "Elem", Args: []api.Co{reflOf(list(lists))}}, api.OK}, {api.Co{Op: api.OAll, Types: []api.Type{named("Type")}, Args: []api.Co{reflOf(list(list(lists)))}}, api.ErrFull}, {api.Co{Op: api.OImp, Args: []api.Co{reflOf(named("Empty")), reflOf(list(list(lists)))}}, api.ErrFull}, {api.Co{Op: api.OAxiom, S: "Elem", Types: []api.Type{list(list(lists))}}, api.ErrFull}, {api.Co{Op: api.OAxiom, S: "Elem", Types: []api.Type{list(lists)}}, api.OK},
	} {
		if a, b, err := Coercion(e, nil, nil, row.o); err != row.want || (err == api.OK) != (a.Op != 0) || (err == api.OK) != (b.Op != 0) {
			t.Error(i, err)
		}
	}
}

func manyMethods(name string, n int) string {
	s := ""
	for i := range n {
		s += name + string(rune('a'+i/10)) + string(rune('0'+i%10)) + " : a; "
	}
	return s
}
