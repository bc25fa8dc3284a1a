package core

import (
	"math/rand"
	"reflect"
	"strings"
	"testing"

	"damask/api"
	"damask/internal/problem"
	"damask/internal/text"
	"damask/types"
)

// deepCopy returns a value in new memory.
func deepCopy(v reflect.Value) reflect.Value {
	c := reflect.New(v.Type()).Elem()
	switch v.Kind() {
	case reflect.Struct:
		for i := range v.NumField() {
			c.Field(i).Set(deepCopy(v.Field(i)))
		}
	case reflect.Slice:
		if v.IsNil() {
			return c
		}
		c.Set(reflect.MakeSlice(v.Type(), v.Len(), v.Len()))
		for i := range v.Len() {
			c.Index(i).Set(deepCopy(v.Index(i)))
		}
	default:
		c.Set(v)
	}
	return c
}

func deep[T any](v T) T { return deepCopy(reflect.ValueOf(v)).Interface().(T) }

// spoil changes all strings and numbers of a value, each once: what is there twice would be changed already.
func spoil(v reflect.Value) {
	switch v.Kind() {
	case reflect.Struct:
		for i := range v.NumField() {
			spoil(v.Field(i))
		}
	case reflect.Slice:
		for i := range v.Len() {
			spoil(v.Index(i))
		}
	case reflect.String:
		if strings.HasPrefix(v.String(), "?") {
			panic("memory is shared within a result")
		}
		v.SetString("?" + v.String())
	case reflect.Int:
		if v.Int() == -7777 {
			panic("memory is shared within a result")
		}
		v.SetInt(-7777)
	}
}

// TestMemory: arguments stay what they are, and share no memory with results.
func TestMemory(t *testing.T) {
	r := rand.New(rand.NewSource(12))
	e := problem.Env(declared)
	for range 600 {
		m := newMaker(r, e)
		_, c, made := m.try(3)
		o, made2 := m.tryCo(3)
		if !made || !made2 {
			continue
		}
		type arguments struct {
			Env   api.Env
			Sigs  []api.Sig
			Kinds []api.Type
			Cos   []api.Eq
			Vars  []api.Type
			C     api.Core
			O     api.Co
		}
		args := arguments{e, m.sigs, m.kinds, m.cos, m.vars, c, o}
		before := deep(args)
		typ, e1 := Type(args.Env, args.Sigs, args.Kinds, args.Cos, args.Vars, args.C)
		a, b, e2 := Coercion(args.Env, args.Kinds, args.Cos, args.O)
		short, e3 := Short(args.O)
		ofTypes, cos, vars, e4 := Free(args.Env, args.C)
		if e1 != api.OK || e2 != api.OK || e3 != api.OK || e4 != api.OK {
			t.Fatal(e1, e2, e3, e4)
		}
		Check(api.CoreProgram{Env: args.Env, Globals: []api.Global{{Name: "x", Type: named("Int"), Term: args.C}}})
		for _, result := range []any{[]api.Type{typ}, []api.Type{a, b}, []api.Co{short}, [][]int{ofTypes, cos, vars}} {
			spoil(reflect.ValueOf(result))
		}
		if !reflect.DeepEqual(args, before) {
			t.Fatal("changed:", textOf(&before.C))
		}
	}
}

// mutated changes some fields of a value at random, so that it is not proper mostly.
func mutated(r *rand.Rand, v reflect.Value, often int) {
	switch v.Kind() {
	case reflect.Struct:
		for i := range v.NumField() {
			mutated(r, v.Field(i), often)
		}
	case reflect.Slice:
		if n := v.Len(); n > 0 && r.Intn(often) == 0 {
			v.Set(v.Slice(0, r.Intn(n)))
		}
		for i := range v.Len() {
			mutated(r, v.Index(i), often)
		}
	case reflect.Int:
		if r.Intn(often) == 0 {
			v.SetInt(int64(r.Intn(18)) - 1)
		}
	case reflect.Bool:
		if r.Intn(often) == 0 {
			v.SetBool(!v.Bool())
		}
	case reflect.String:
		if r.Intn(often) == 0 {
			v.SetString([]string{"", "x", "Nil", "VCons", "Int", "'Z", "Vec", "Eq", "Elem", "Age"}[r.Intn(10)])
		}
	}
}

// TestAnything: whatever the arguments are, there is an answer, always the same one, and none beside an error.
func TestAnything(t *testing.T) {
	r := rand.New(rand.NewSource(13))
	world := problem.Env(declared)
	count := map[api.Errno]int{}
	for range 4000 {
		m := newMaker(r, world)
		_, c, made := m.try(3)
		o, made2 := m.tryCo(3)
		if !made || !made2 {
			continue
		}
		m.env, m.sigs, m.kinds, m.cos, m.vars = deep(m.env), deep(m.sigs), deep(m.kinds), deep(m.cos), deep(m.vars)
		c, o = deep(c), deep(o)
		switch r.Intn(4) {
		case 0:
			mutated(r, reflect.ValueOf(&c).Elem(), 100)
			mutated(r, reflect.ValueOf(&o).Elem(), 50)
		case 1:
			mutated(r, reflect.ValueOf(&m.env).Elem(), 100)
		case 2:
			mutated(r, reflect.ValueOf(&m.sigs).Elem(), 100)
			mutated(r, reflect.ValueOf(&m.kinds).Elem(), 30)
		case 3:
			mutated(r, reflect.ValueOf(&m.cos).Elem(), 30)
			mutated(r, reflect.ValueOf(&m.vars).Elem(), 30)
		}
		typ, e1 := m.found(c)
		a, b, e2 := Coercion(m.env, m.kinds, m.cos, o)
		x, y, z, e3 := Size(c)
		l1, l2, l3, e4 := Free(m.env, c)
		trivial, e5 := Trivial(o)
		short, e6 := Short(o)
		s, e7 := Text(c)
		if e1 != api.OK && typ.Op != 0 || e2 != api.OK && (a.Op != 0 || b.Op != 0) || e3 != api.OK && x+y+z != 0 || e4 != api.OK && (l1 != nil || l2 != nil || l3 != nil) || e5 != api.OK && trivial || e6 != api.OK && short.Op != 0 || e7 != api.OK && s != "" {
			t.Fatal("a result beside an error", e1, e2, e3, e4, e5, e6, e7)
		}
		p := api.CoreProgram{Env: m.env}
		for _, g := range m.sigs {
			p.Globals = append(p.Globals, api.Global{Name: g.Name, Type: g.Type, Term: c})
		}
		at, e8 := Check(p)
		if at < 0 || at > len(p.Globals) || (at == len(p.Globals)) != (e8 == api.OK) {
			t.Fatal(at, e8)
		}
		again, e9 := m.found(c)
		if e9 != e1 || !types.Same(again, typ) {
			t.Fatal("another answer")
		}
		count[e1]++
		count[e2]++
	}
	for _, e := range []api.Errno{api.OK, api.ErrArg, api.ErrCore} {
		if count[e] < 200 {
			t.Error("too few with this error:", e, count)
		}
	}
}

// TestDeep: terms, coercions and types can be nested as deeply as one likes.
func TestDeep(t *testing.T) {
	const depth = 1 << 16
	e := problem.Env(declared)
	c, o, typ := api.Core{Op: api.CInt}, reflOf(named("Int")), named("Int")
	for range depth {
		c = api.Core{Op: api.CCase, Types: []api.Type{named("Int")}, Args: []api.Core{{Op: api.CInt}}, Alts: []api.CoreAlt{{Op: api.AAny, Body: c}}}
		o = api.Co{Op: api.OSym, Args: []api.Co{o}}
		typ = api.Type{Op: api.YApp, Args: []api.Type{named("List"), typ}}
	}
	terms := []api.Core{c, {Op: api.CCast, Args: []api.Core{{Op: api.CInt}}, Co: []api.Co{o}}, at(con("Nil"), typ)}
	for i, c := range terms {
		checkAll(t, "deep", e, c, api.ErrArg)
		other := deep(c)
		if !Same(c, other) {
			t.Error(i)
		}
	}
	checkCoercion(t, "deep", e, o, api.ErrArg)
	if Same(terms[0], terms[1]) || Same(terms[0], terms[0].Alts[0].Body) || !Same(terms[0].Alts[0].Body, terms[0].Alts[0].Body) {
		t.Error("not the same")
	}
	if _, err := Type(e, nil, []api.Type{typ}, nil, nil, api.Core{Op: api.CInt}); err != api.ErrArg {
		t.Error(err)
	}
	wide := api.Core{Op: api.CLet, Args: make([]api.Core, depth)}
	checkAll(t, "wide", e, wide, api.ErrArg)
	if !Same(wide, deep(wide)) {
		t.Error("wide")
	}
}

// TestExamples are those of the chapter.
func TestExamples(t *testing.T) {
	e := problem.Env(declared)
	id := api.Core{Op: api.CTLam, Types: []api.Type{named("Type")}, Args: []api.Core{{Op: api.CLam, Types: []api.Type{{Op: api.YVar}}, Args: []api.Core{{Op: api.CVar}}}}}
	if typ, err := Type(e, nil, nil, nil, nil, id); err != api.OK || text.Show(typ) != "forall a. a -> a" {
		t.Error(text.Show(typ), err)
	}
	pair := []api.Eq{{Left: named("Int"), Right: named("Bool")}}
	cast := api.Core{Op: api.CCast, Args: []api.Core{{Op: api.CInt, N: 5}}, Co: []api.Co{{Op: api.OVar}}}
	if typ, err := Type(e, nil, nil, pair, nil, cast); err != api.OK || text.Show(typ) != "Bool" {
		t.Error(text.Show(typ), err)
	}
	lists := []api.Eq{{Left: text.Type("List Int"), Right: text.Type("List Bool")}}
	if a, b, err := Coercion(e, nil, lists, api.Co{Op: api.OLeft, Args: []api.Co{{Op: api.OVar}}}); err != api.OK || text.Show(a) != "List" || text.Show(b) != "List" {
		t.Error(text.Show(a), text.Show(b), err)
	}
}
