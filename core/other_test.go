package core

import (
	"math/rand"
	"reflect"
	"slices"
	"strconv"
	"strings"
	"testing"

	"damask/api"
	"damask/internal/problem"
	"damask/types"
)

func numbersText(l []int) string {
	var texts []string
	for _, n := range l {
		texts = append(texts, strconv.Itoa(n))
	}
	return strings.Join(texts, " ")
}

// TestFree: of type variables, coercion variables and value variables.
func TestFree(t *testing.T) {
	e := problem.Env(declared)
	for _, row := range []struct{ context, term, types, cos, vars string }{
		{"", "5", "", "", ""}, {"", "#3", "", "", "3"}, {"", "(lam x {Int} x)", "", "", ""}, {"", "(lam x {Int} #3)", "", "", "2"}, {"", "(lam x {Int} #0)", "", "", ""}, {"", "(lam x {v2} #1)", "2", "", "0"}, {"", "(app #2 (app #0 #2))", "", "", "0 2"}, {"", "$x", "", "", ""}, {"", "Nil", "", "", ""},
		{"", "(tlam a {v1} (lam x {a} (lam y {v1 -> v4} #5)))", "1 4", "", "3"}, {"", "(tlam a {Type} (at #0 {a} {v0}))", "0", "", "0"}, {"", "(at 5 {forall (b : v3). b -> v1})", "1 3", "", ""},
		{"", "(qlam q {v5} {v3} (by #2 q))", "3 5", "", "2"}, {"", "(qlam q {v5} {v3} (by #2 (trans #1 #4)))", "3 5", "0 3", "2"}, {"", "(cast 5 #7)", "", "7", ""}, {"", "(cast 5 (all a {v2} (trans {a -> v1} #0)))", "1 2", "0", ""}, {"", "(cast 5 (axiom Elem 0 {v1} {v0}))", "0 1", "", ""}, {"", "(cast 5 (fam Elem #1 {v3}))", "3", "1", ""}, {"", "(qlam q {Int} {Int} (cast (cast 5 #0) (left (right (sym (imp #1 (app #3 #1)))))))", "", "0 2", ""},
		{"", "(let (x {v1} #2) (y {v2} #1) #5)", "1 2", "", "0 3"}, {"", "(let (x {v1} x) (y {v2} y) x)", "1 2", "", ""}, {"", "(let #1)", "", "", "1"},
		{"", "(case #1 x {v2} (_ #1))", "2", "", "0 1"}, {"", "(case #1 x {v2} (_ #0) (5 #3))", "2", "", "1 2"}, {"", "(case 5 x {v2} (VCons (n) (q) (u v) (cast (lam y {n} (lam z {v4} #6)) (trans q #2))))", "2 4", "1", "1"}, {"", "(case 5 x {Int} (VCons (n) (q) (u v) (app #0 (app #1 (app #2 #3)))))", "", "", "0"}, {"", "(case 5 x {Int} (Some (a) () (e u) (app #0 (app #1 (app #2 #4)))))", "", "", "1"}, {"", "(case 5 x {Int} (Both (b c) (q r) (e u v) (cast (at #4 {c} {b} {v0} {v3}) (trans #1 (trans #2 #5)))))", "0 3", "0 3", "0"},
		{"", "(case 5 x {Int} (Ord% () () (d f g) (app #3 #4)))", "", "", "0"}, {"", "(case 5 x {Int} (Empty% () () () (app #0 #1)))", "", "", "0"}, {"", "(case 5 x {Int} (Age () () (u) (app #1 #2)))", "", "", "0"}, {"", "(case 5 x {Int} (True () () () (app #0 #1)))", "", "", "0"},
		{"", "(new Age {v3} #1)", "3", "", "1"}, {"", "(old Age {v3} {v1} #1)", "1 3", "", "1"},
		{"a : Type; b : Type; q : a ~ b; x : a; y : b;", "(app (cast x q) y)", "", "0", "0 1"}, {"a : Type; b : Type; q : a ~ b; x : a; y : b;", "(tlam c {Type} (lam z {a -> c} x))", "1", "", "1"},
	} {
		ofTypes, cos, vars, err := Free(e, around(row.context).term(row.term))
		if err != api.OK || numbersText(ofTypes) != row.types || numbersText(cos) != row.cos || numbersText(vars) != row.vars {
			t.Error(row.term, ofTypes, cos, vars, err)
		}
	}
	for _, source := range []string{"(case 5 x {Int} (No () () () 1))", "(case 5 x {Int} (True () () () 1) (Eq () () () 2))", "(app #0 (case 5 x {Int} (Nat% () () () 2)))", "(case 5 x {Int} (% () () () 2))"} {
		if a, b, c, err := Free(e, around("").term(source)); err != api.ErrCore || a != nil || b != nil || c != nil {
			t.Error(source, err)
		}
	}
}

// TestFreeOfMade: variables of a term that has a type are those of its context, and further ones around it do not matter.
func TestFreeOfMade(t *testing.T) {
	r := rand.New(rand.NewSource(7))
	e := problem.Env(declared)
	for range 2000 {
		m := newMaker(r, e)
		_, c, made := m.try(3)
		if !made {
			continue
		}
		ofTypes, cos, vars, err := Free(e, c)
		if err != api.OK || slices.ContainsFunc(ofTypes, func(n int) bool { return n >= len(m.kinds) }) || slices.ContainsFunc(cos, func(n int) bool { return n >= len(m.cos) }) || slices.ContainsFunc(vars, func(n int) bool { return n >= len(m.vars) }) {
			t.Fatal(textOf(&c), ofTypes, cos, vars, err)
		}
		// what is not free can have any type
		of := slices.Clone(m.vars)
		for i := range of {
			if !slices.Contains(vars, len(of)-1-i) {
				of[i] = named("Void")
			}
		}
		pairs := slices.Clone(m.cos)
		for i := range pairs {
			if !slices.Contains(cos, len(pairs)-1-i) {
				pairs[i] = api.Eq{Left: named("Void"), Right: named("Nat")}
			}
		}
		before, e1 := m.found(c)
		after, e2 := Type(e, m.sigs, m.kinds, pairs, of, c)
		if e1 != e2 || !types.Same(before, after) {
			t.Fatal(textOf(&c), showType(before), e1, showType(after), e2)
		}
		// a variable around all is bound
		inside, _, _, _ := Free(e, api.Core{Op: api.CTLam, Types: []api.Type{named("Type")}, Args: []api.Core{c}})
		_, insideCos, _, _ := Free(e, api.Core{Op: api.CQLam, Types: []api.Type{named("Int"), named("Int")}, Args: []api.Core{c}})
		_, _, insideVars, _ := Free(e, api.Core{Op: api.CLam, Types: []api.Type{named("Int")}, Args: []api.Core{c}})
		if !slices.Equal(inside, lower(ofTypes)) || !slices.Equal(insideCos, lower(cos)) || !slices.Equal(insideVars, lower(vars)) {
			t.Fatal(textOf(&c), inside, insideCos, insideVars)
		}
	}
}

// lower are numbers without 0, each smaller by 1.
func lower(l []int) []int {
	var made []int
	for _, n := range l {
		if n > 0 {
			made = append(made, n-1)
		}
	}
	return made
}

// count counts the values of a type in a value.
func count(v reflect.Value, of reflect.Type) int {
	n := 0
	if v.Type() == of {
		n++
	}
	switch v.Kind() {
	case reflect.Struct:
		for i := range v.NumField() {
			n += count(v.Field(i), of)
		}
	case reflect.Slice:
		for i := range v.Len() {
			n += count(v.Index(i), of)
		}
	}
	return n
}

// bare takes what is in types out of them, so that each counts as one.
func bare(v reflect.Value) {
	switch v.Kind() {
	case reflect.Struct:
		if v.Type() == reflect.TypeFor[api.Type]() {
			v.Set(reflect.ValueOf(named("Int")))
			return
		}
		for i := range v.NumField() {
			bare(v.Field(i))
		}
	case reflect.Slice:
		for i := range v.Len() {
			bare(v.Index(i))
		}
	}
}

func TestSize(t *testing.T) {
	for source, want := range map[string][3]int{
		"5": {1, 0, 0}, "(lam x {List Int} x)": {2, 0, 1}, "(app 1 2)": {3, 0, 0}, "(cast 5 (trans {Int} {List Int}))": {2, 3, 2}, "(case 5 x {Int} (1 2) (_ (app 3 4)))": {6, 0, 1}, "(let (x {Int} 1) (y {Int} 2) 3)": {4, 0, 2}, "(by 5 (axiom Elem 0 {Int} {Bool}))": {2, 1, 2}, "(new Age {Int} {Bool} 5)": {2, 0, 2}, "(cast 5 (all a {Type} (sym {a})))": {2, 3, 2},
	} {
		if a, b, c, err := Size(around("").term(source)); err != api.OK || want != [3]int{a, b, c} {
			t.Error(source, a, b, c, err)
		}
	}
	r := rand.New(rand.NewSource(8))
	e := problem.Env(declared)
	for range 500 {
		_, c, made := newMaker(r, e).try(3)
		if !made {
			continue
		}
		terms, cos, ofTypes, err := Size(c)
		flat := deep(c)
		bare(reflect.ValueOf(&flat).Elem())
		v := reflect.ValueOf(flat)
		if err != api.OK || terms != count(v, reflect.TypeFor[api.Core]()) || cos != count(v, reflect.TypeFor[api.Co]()) || ofTypes != count(v, reflect.TypeFor[api.Type]()) {
			t.Fatal(textOf(&c), terms, cos, ofTypes, err)
		}
	}
}

// TestSameAndText: two terms are the same just if their texts are, and a change of any field makes another term.
func TestSameAndText(t *testing.T) {
	r := rand.New(rand.NewSource(9))
	e := problem.Env(declared)
	texts := map[string]api.Core{}
	note := func(c api.Core) {
		s, err := Text(c)
		if (err == api.OK) != isProper(&c) {
			t.Fatal(err)
		}
		if before, found := texts[s]; err == api.OK && found && !Same(before, c) {
			t.Fatal("one text of two terms:", s)
		}
		if err == api.OK {
			texts[s] = c
		}
	}
	for range 1500 {
		m := newMaker(r, e)
		_, c, made := m.try(2)
		if !made {
			continue
		}
		note(c)
		for range 6 {
			changed := deep(c)
			if !Same(c, changed) || !Same(changed, c) || !Same(c, emptied(changed)) {
				t.Fatal(textOf(&c))
			}
			changeOne(r, reflect.ValueOf(&changed).Elem())
			if Same(c, changed) != reflect.DeepEqual(c, changed) || Same(changed, c) != reflect.DeepEqual(c, changed) {
				t.Fatal(textOf(&c), Same(c, changed))
			}
			if s, err := Text(changed); err == api.OK && (s == textOf(&c)) != Same(c, changed) {
				t.Fatal(s)
			}
			note(changed)
		}
	}
	for _, s := range []string{"x", "x y", "(x)", "\"x\"", "#1", "?1", "!1", "1", "é", "\xff", "\ufffd", "x\n", "x)", "=>", "forall", "a\\", "\\x22"} {
		for _, c := range []api.Core{{Op: api.CGlob, S: s}, con(s), at(con("Nil"), named(s)), at(con("Nil"), applied(named(s), named(s))), {Op: api.CCase, Types: []api.Type{named("Int")}, Args: []api.Core{{Op: api.CInt}}, Alts: []api.CoreAlt{{Op: api.ACon, S: s, Body: api.Core{Op: api.CInt}}}}, {Op: api.CCast, Args: []api.Core{{Op: api.CInt}}, Co: []api.Co{{Op: api.OFam, S: s}}}, {Op: api.CCast, Args: []api.Core{{Op: api.CInt}}, Co: []api.Co{{Op: api.OAxiom, S: s, N: 3}}}} {
			before := len(texts)
			note(c)
			if len(texts) != before+1 && s != "x" {
				t.Error(s, textOf(&c))
			}
		}
	}
}

// TestTexts: names that look like something else do not make one text of two terms.
func TestTexts(t *testing.T) {
	one := []api.Core{{Op: api.CInt}}
	of := func(s string, l ...api.Type) api.Core {
		return api.Core{Op: api.CNew, S: s, Types: l, Args: one}
	}
	cast := func(o api.Co) api.Core { return api.Core{Op: api.CCast, Args: one, Co: []api.Co{o}} }
	a, b := named("a"), named("b")
	texts := map[string]bool{}
	terms := []api.Core{
		of("x"), of("x", a), of("x a"), of("x", a, b), of("x a", b), of("x a b"), of("x", named("a b")), of("x", applied(a, b)), of("x", named("(a b)")), of("x", named(" a")), of("x", named("a "), b), of("x", api.Type{Op: api.YVar}), of("x", named("#0")), of("x", api.Type{Op: api.YMeta}), of("x", named("?0")), of("x", api.Type{Op: api.YRigid}), of("x", named("!0")),
		of("x", implication(a, b)), of("x", forall(a, b)), of("x", applied(named("=>"), a, b)), of("x", applied(named("forall"), a, b)), of("x", named("=>"), a, b), of("x", named(`"a"`)), of(`"x"`), of("x", named("a\\tb")), of("x", named("a\tb")), of("x", named("a~")), of("x", named("a\x7f")), of("x", named("ä")), of("x", named("a\xe4")),
		cast(api.Co{Op: api.OFam, S: "x"}), cast(api.Co{Op: api.OFam, S: "x 0"}), cast(api.Co{Op: api.OAxiom, S: "x"}), cast(api.Co{Op: api.OAxiom, S: "x", Types: []api.Type{a}}), cast(api.Co{Op: api.OAxiom, S: "x 0", Types: []api.Type{a}}), cast(api.Co{Op: api.OAxiom, S: "x", N: 1}), cast(api.Co{Op: api.OVar}), cast(api.Co{Op: api.OVar, N: 1}), cast(reflOf(a)), cast(api.Co{Op: api.OSym, Args: []api.Co{reflOf(a)}}),
		{Op: api.CVar}, {Op: api.CInt}, {Op: api.CInt, N: -1}, {Op: api.CVar, N: 10}, {Op: api.CInt, N: 10}, {Op: api.CGlob, S: "10"}, {Op: api.CCon, S: "10"}, {Op: api.CLet, Args: one}, {Op: api.CLet, Types: []api.Type{a}, Args: []api.Core{{Op: api.CInt}, {Op: api.CInt}}},
	}
	for _, c := range terms {
		s, err := Text(c)
		if err != api.OK || texts[s] {
			t.Error(s, err)
		}
		texts[s] = true
	}
}

// emptied has empty lists for those that are nil.
func emptied(c api.Core) api.Core {
	var empty func(v reflect.Value)
	empty = func(v reflect.Value) {
		switch v.Kind() {
		case reflect.Struct:
			for i := range v.NumField() {
				empty(v.Field(i))
			}
		case reflect.Slice:
			if v.IsNil() {
				v.Set(reflect.MakeSlice(v.Type(), 0, 0))
			}
			for i := range v.Len() {
				empty(v.Index(i))
			}
		}
	}
	c = deep(c)
	empty(reflect.ValueOf(&c).Elem())
	return c
}

// changeOne changes one number, string or list.
func changeOne(r *rand.Rand, v reflect.Value) {
	var places []func()
	var look func(v reflect.Value)
	look = func(v reflect.Value) {
		switch v.Kind() {
		case reflect.Struct:
			for i := range v.NumField() {
				look(v.Field(i))
			}
		case reflect.Slice:
			if v.Len() > 0 {
				places = append(places, func() { v.Set(v.Slice(0, v.Len()-1)) }, func() { v.Set(reflect.Append(v.Slice3(0, v.Len(), v.Len()), v.Index(0))) })
			}
			for i := range v.Len() {
				look(v.Index(i))
			}
		case reflect.Int:
			places = append(places, func() { v.SetInt(v.Int() + int64(r.Intn(3)) - 1) })
		case reflect.String:
			places = append(places, func() { v.SetString(v.String() + []string{"", "x", " ", "("}[r.Intn(4)]) })
		}
	}
	look(v)
	places[r.Intn(len(places))]()
}

// coText writes a coercion.
func coText(o api.Co) string {
	var w writer
	w.co(&o)
	return w.String()
}

func TestShort(t *testing.T) {
	for _, row := range [][2]string{
		{"{Int}", "{Int}"}, {"#0", "#0"}, {"(sym {Int})", "{Int}"}, {"(sym (sym #0))", "#0"}, {"(sym #0)", "(sym #0)"}, {"(sym (sym (sym #0)))", "(sym #0)"}, {"(sym (trans #0 #1))", "(sym (trans #0 #1))"}, {"(sym (sym (trans #0 #1)))", "(trans #0 #1)"},
		{"(trans {Int} #0)", "#0"}, {"(trans #0 {Int})", "#0"}, {"(trans #0 #1)", "(trans #0 #1)"}, {"(trans {Int} {Int})", "{Int}"}, {"(trans (sym {Int}) (trans #0 {Bool}))", "#0"}, {"(sym (trans (sym (sym #0)) {Int}))", "(sym #0)"}, {"(sym (trans {Int} (sym #0)))", "#0"},
		{"(app {List} {Int})", "{List Int}"}, {"(app {List} #0)", "(app {List} #0)"}, {"(app #0 {Int})", "(app #0 {Int})"}, {"(app (app {Pair} (sym {Int})) {Bool})", "{Pair Int Bool}"}, {"(imp {Eq Int} {Bool})", "{Eq Int => Bool}"}, {"(imp {Eq Int} #0)", "(imp {Eq Int} #0)"}, {"(imp #0 {Int})", "(imp #0 {Int})"},
		{"(all a {Type} {a})", "{forall a. a}"}, {"(all a {Nat} {Vec v0 a})", "{forall (a : Nat). Vec v0 a}"}, {"(all a {Type} #0)", "(all a {Type} #0)"}, {"(all a {Type} (trans {a} (sym {a})))", "{forall a. a}"},
		{"(fam Plus {'Z} {v1})", "{Plus 'Z v1}"}, {"(fam Plus {'Z} #0)", "(fam Plus {'Z} #0)"}, {"(fam Plus #0 {'Z})", "(fam Plus #0 {'Z})"}, {"(fam Unit2)", "{Unit2}"}, {"(fam Elem (fam Elem {Int}))", "{Elem (Elem Int)}"},
		{"(axiom Unit2 0)", "(axiom Unit2 0)"}, {"(left {List Int})", "(left {List Int})"}, {"(right (sym {List Int}))", "(right {List Int})"}, {"(left (app {List} {Int}))", "(left {List Int})"},
	} {
		o, want := around("").co(row[0]), around("").co(row[1])
		if got, err := Short(o); err != api.OK || coText(got) != coText(want) {
			t.Error(row[0], coText(got), err)
		}
	}
	// where the type would not be proper, all stays
	deepType := named("Int")
	for range 39 {
		deepType = api.Type{Op: api.YApp, Args: []api.Type{named("List"), deepType}}
	}
	list, name := reflOf(named("List")), strings.Repeat("x", 41)
	for _, o := range []api.Co{
		{Op: api.OApp, Args: []api.Co{list, reflOf(deepType)}}, {Op: api.OImp, Args: []api.Co{list, reflOf(deepType)}}, {Op: api.OAll, Types: []api.Type{named("Type")}, Args: []api.Co{reflOf(deepType)}}, {Op: api.OFam, S: "Elem", Args: []api.Co{reflOf(deepType)}}, {Op: api.OFam, S: name}, {Op: api.OFam, S: name[1:] + "y", Args: []api.Co{list}},
	} {
		if got, err := Short(o); err != api.OK || coText(got) != coText(o) {
			t.Error(coText(o), coText(got), err)
		}
	}
	if got, err := Short(api.Co{Op: api.OFam, S: name[1:]}); err != api.OK || got.Op != api.ORefl {
		t.Error(got, err)
	}
}

func TestTrivial(t *testing.T) {
	for source, want := range map[string]bool{
		"{Int}": true, "#0": false, "(axiom Unit2 0)": false, "(left {List Int})": false, "(right {List Int})": false, "(sym {Int})": true, "(sym #0)": false, "(trans {Int} {Bool})": true, "(trans {Int} #0)": false, "(trans #0 {Int})": false, "(app {List} {Int})": true, "(app #0 {Int})": false, "(app {List} (sym #0))": false,
		"(all a {Type} {a})": true, "(all a {Type} #0)": false, "(imp {Int} {Int})": true, "(imp {Int} #1)": false, "(fam Elem {Int})": true, "(fam Elem #0)": false, "(fam Plus {Int} #0)": false, "(fam Unit2)": true, "(all a {Type} (app (sym {List}) (trans {a} (fam Elem (imp {a} {a})))))": true,
	} {
		if got, err := Trivial(around("").co(source)); err != api.OK || got != want {
			t.Error(source, got, err)
		}
	}
}

// TestCoercionProperties: both types have one kind, and are the same if the coercion is trivial; a short one is between them, too, and there is nothing to make short in it.
func TestCoercionProperties(t *testing.T) {
	r := rand.New(rand.NewSource(10))
	e := problem.Env(declared)
	trivial, shorter := 0, 0
	for range 8000 {
		m := newMaker(r, e)
		o, made := m.tryCo(5)
		if !made {
			continue
		}
		a, b, err := Coercion(e, m.kinds, m.cos, o)
		if err != api.OK {
			t.Fatal(coText(o), err)
		}
		if !types.Same(m.kindOf(a), m.kindOf(b)) {
			t.Fatal(coText(o))
		}
		if yes, _ := Trivial(o); yes {
			trivial++
			if !types.Same(a, b) {
				t.Fatal(coText(o))
			}
		}
		short, err := Short(o)
		c, d, err2 := Coercion(e, m.kinds, m.cos, short)
		if err != api.OK || err2 != api.OK || !types.Same(a, c) || !types.Same(b, d) {
			t.Fatal(coText(o), coText(short), err, err2)
		}
		if again, _ := Short(short); coText(again) != coText(short) {
			t.Fatal(coText(short), coText(again))
		}
		if coText(short) != coText(o) {
			shorter++
		}
	}
	if trivial < 500 || shorter < 2000 {
		t.Error(trivial, shorter)
	}
}

func (m *maker) tryCo(depth int) (o api.Co, made bool) {
	defer func() {
		if !made {
			recover()
		}
	}()
	o, _ = m.coTo(m.typ(m.kind(), 2), depth)
	if m.Intn(3) == 0 {
		o = api.Co{Op: api.OSym, Args: []api.Co{{Op: api.OSym, Args: []api.Co{o}}}}
	}
	return o, isProperCo(&o)
}

// TestFurther: a term that has a type has it with further globals and declarations, and when types are put for type variables.
func TestFurther(t *testing.T) {
	r := rand.New(rand.NewSource(11))
	e := problem.Env(declared)
	more := problem.Env(declared + "data More : Type { More : More; }; class Further (a) { further : a; }; family Fam : Type { Fam = Int; }; newtype Age2 : Type { Age2 : Int -> Age2; }; instance Eq Int { same = eq; };")
	put := 0
	for range 4000 {
		m := newMaker(r, e)
		want, c, made := m.try(3)
		if !made {
			continue
		}
		before, e1 := m.found(c)
		after, e2 := Type(more, append(slices.Clone(m.sigs), api.Sig{Name: "further", Type: named("Int")}), m.kinds, m.cos, m.vars, c)
		if e1 != api.OK || e2 != api.OK || !types.Same(before, after) || !types.Same(before, want) {
			t.Fatal(textOf(&c), e1, e2)
		}
		if len(m.kinds) == 0 {
			continue
		}
		// for the last variable, since the others come before its kind
		outer := *m
		outer.kinds = m.kinds[:len(m.kinds)-1]
		for _, e := range m.cos {
			outer.cos = append(outer.cos[:0:0], e)
		}
		s, ok := outer.tryType(m.kinds[len(m.kinds)-1])
		if !ok {
			continue
		}
		pairs, of, tooLarge := []api.Eq{}, []api.Type{}, false
		with := func(t api.Type) api.Type {
			made, e := types.Put(t, []api.Type{s})
			tooLarge = tooLarge || e != api.OK
			return made
		}
		for _, e := range m.cos {
			pairs = append(pairs, api.Eq{Left: with(e.Left), Right: with(e.Right)})
		}
		for _, t := range m.vars {
			of = append(of, with(t))
		}
		changed, fits := substituted(c, s)
		wanted := with(want)
		if tooLarge || !fits {
			continue
		}
		got, err := Type(e, m.sigs, outer.kinds, pairs, of, changed)
		if err == api.ErrFull {
			continue
		}
		if err != api.OK || !types.Same(got, wanted) {
			t.Fatal(textOf(&c), textOf(&changed), showType(s), err, showType(got), showType(wanted))
		}
		put++
	}
	if put < 1000 {
		t.Error(put)
	}
}

func (m *maker) tryType(k api.Type) (t api.Type, made bool) {
	defer func() {
		if !made {
			recover()
		}
	}()
	return m.typ(k, 2), true
}

// substituted puts a plain type for the last type variable around a term, or fails where a type gets too large or an axiom would be another one.
func substituted(c api.Core, s api.Type) (api.Core, bool) {
	made, fits := deep(c), true
	if l, _ := types.Free(s); len(l) > 0 {
		return made, false // it would have to be shifted within
	}
	var inTerm func(c *api.Core, depth int)
	var inCo func(o *api.Co, depth int)
	in := func(l []api.Type, depth int) {
		for i := range l {
			// the variables that are bound within stay themselves
			vars := []api.Type{s}
			for n := depth - 1; n >= 0; n-- {
				vars = append(vars, api.Type{Op: api.YVar, N: n})
			}
			t, e := types.Put(shiftedOver(l[i], depth), vars)
			fits = fits && e == api.OK
			l[i] = t
		}
	}
	inCo = func(o *api.Co, depth int) {
		in(o.Types, depth)
		if o.Op == api.OAll {
			depth++
		}
		for i := range o.Args {
			inCo(&o.Args[i], depth)
		}
	}
	inTerm = func(c *api.Core, depth int) {
		in(c.Types, depth)
		for i := range c.Co {
			inCo(&c.Co[i], depth)
		}
		within := depth
		if c.Op == api.CTLam {
			within++
		}
		for i := range c.Args {
			inTerm(&c.Args[i], within)
		}
		for i := range c.Alts {
			further := map[string]int{"VCons": 1, "Some": 1, "Hidden": 2, "Both": 2}[c.Alts[i].S]
			inTerm(&c.Alts[i].Body, depth+further)
		}
	}
	inTerm(&made, 0)
	return made, fits
}

// shiftedOver makes room, so that after types are put for the first variables, those that are bound within have their numbers again.
func shiftedOver(t api.Type, depth int) api.Type {
	made, e := types.Shift(t, depth, depth+1)
	if e != api.OK {
		panic("not shifted")
	}
	return made
}
