package cover

import (
	"math/rand"
	"reflect"
	"slices"
	"strings"
	"testing"

	"damask/api"
	"damask/decl"
	"damask/internal/problem"
	"damask/internal/sample"
	"damask/scope"
	"damask/syntax"
)

// TestExample: nothing is missing in DOC.md's module, but where conditions are, and numbers.
func TestExample(t *testing.T) {
	l, _, _ := syntax.Modules(sample.Example)
	p, _ := scope.Resolve(l)
	e, p, _, _ := decl.Build(p)
	if l, err := Program(p, e); err != api.OK || len(l) != 0 {
		t.Error(l, err)
	}
}

// deepCopy returns a value in new memory.
func deepCopy(v reflect.Value) reflect.Value {
	c := reflect.New(v.Type()).Elem()
	switch v.Kind() {
	case reflect.Struct:
		for i := range v.NumField() {
			c.Field(i).Set(deepCopy(v.Field(i)))
		}
	case reflect.Slice:
		if v.IsNil() {
			return c
		}
		c.Set(reflect.MakeSlice(v.Type(), v.Len(), v.Len()))
		for i := range v.Len() {
			c.Index(i).Set(deepCopy(v.Index(i)))
		}
	default:
		c.Set(v)
	}
	return c
}

func deep[T any](v T) T { return deepCopy(reflect.ValueOf(v)).Interface().(T) }

// spoil changes all strings and numbers of a value, each once: what is there twice would be changed already.
func spoil(v reflect.Value) {
	switch v.Kind() {
	case reflect.Struct:
		for i := range v.NumField() {
			spoil(v.Field(i))
		}
	case reflect.Slice:
		for i := range v.Len() {
			spoil(v.Index(i))
		}
	case reflect.String:
		if strings.HasPrefix(v.String(), "?") {
			panic("memory is shared within a result")
		}
		v.SetString("?" + v.String())
	case reflect.Int:
		if v.Int() == -7 {
			panic("memory is shared within a result")
		}
		v.SetInt(-7)
	}
}

// TestMemory: arguments stay what they are, and share no memory with results.
func TestMemory(t *testing.T) {
	r := rand.New(rand.NewSource(4))
	e := problem.Env(world + tuples)
	for range 300 {
		m := newMaker(r, e)
		c, ok := m.matrix(true, true)
		if !ok {
			continue
		}
		type arguments struct {
			Env     api.Env
			Rigids  []api.Rigid
			Types   []api.Type
			Rows    [][]api.Pat
			Guarded []bool
			Values  [][]api.Pat
		}
		args := arguments{e, c.rigids, c.columns, c.rows, c.guarded, c.values}
		before := deep(args)
		missing, _ := Missing(e, c.rigids, c.columns, c.rows, c.guarded)
		useless, _ := Useless(e, c.rigids, c.columns, c.rows, c.guarded)
		values, _ := Values(e, c.rigids, c.columns[0], 5)
		possible, _ := Possible(e, c.rigids, nil, c.columns[0])
		Matches(c.values[0], c.values[0])
		for _, result := range []any{missing, useless, values, possible} {
			spoil(reflect.ValueOf(result))
		}
		if !reflect.DeepEqual(args, before) {
			t.Fatal("changed:", problem.Types(c.columns), showRows(c.rows))
		}
	}
	p, e := program(t, world+"f : Bool -> Int; f True = 1; g : forall a (n : Nat). n ~ 'Z => Vec a n -> Int; g VNil = 1;")
	before := deep(p)
	l, _ := Program(p, e)
	spoil(reflect.ValueOf(l))
	if !reflect.DeepEqual(p, before) {
		t.Error("the program is changed")
	}
}

// mutated changes some fields of a value at random.
func mutated(r *rand.Rand, v reflect.Value, often int) {
	switch v.Kind() {
	case reflect.Struct:
		for i := range v.NumField() {
			mutated(r, v.Field(i), often)
		}
	case reflect.Slice:
		if n := v.Len(); n > 0 && r.Intn(often) == 0 {
			v.Set(v.Slice(0, r.Intn(n)))
		}
		for i := range v.Len() {
			mutated(r, v.Index(i), often)
		}
	case reflect.Int:
		if r.Intn(often) == 0 {
			v.SetInt(int64(r.Intn(12)) - 1)
		}
	case reflect.Bool:
		if r.Intn(often) == 0 {
			v.SetBool(!v.Bool())
		}
	case reflect.String:
		if r.Intn(often) == 0 {
			v.SetString([]string{"", "x", "Nil", "VCons", "Int", "'Z", "Vec", "M.Nil"}[r.Intn(8)])
		}
	}
}

// TestAnything: whatever the arguments are, there is an answer, always the same one, and none beside an error.
func TestAnything(t *testing.T) {
	r := rand.New(rand.NewSource(5))
	world := problem.Env(world + tuples)
	count := map[api.Errno]int{}
	for range 6000 {
		m := newMaker(r, world)
		c, ok := m.matrix(true, true)
		if !ok {
			continue
		}
		e, rigids, columns, rows, guarded := world, deep(c.rigids), deep(c.columns), deep(c.rows), deep(c.guarded)
		switch r.Intn(4) {
		case 0:
			mutated(r, reflect.ValueOf(&rows).Elem(), 12)
		case 1:
			mutated(r, reflect.ValueOf(&columns).Elem(), 12)
		case 2:
			mutated(r, reflect.ValueOf(&rigids).Elem(), 6)
			mutated(r, reflect.ValueOf(&guarded).Elem(), 6)
		case 3:
			e = deep(e)
			mutated(r, reflect.ValueOf(&e).Elem(), 200)
		}
		missing, e1 := Missing(e, rigids, columns, rows, guarded)
		useless, e2 := Useless(e, rigids, columns, rows, guarded)
		values, e3 := Values(e, rigids, append(columns, api.Type{})[0], r.Intn(9)-1)
		possible, e4 := Possible(e, rigids, columns, append(columns, api.Type{})[0])
		matches, e5 := Matches(slices.Concat(rows...), c.values[0])
		if e1 != api.OK && missing != nil || e2 != api.OK && useless != nil || e3 != api.OK && values != nil || e4 != api.OK && possible != nil || e5 != api.OK && matches {
			t.Fatal("a result beside an error", e1, e2, e3, e4, e5)
		}
		again, e6 := Missing(e, rigids, columns, rows, guarded)
		if showRows(again) != showRows(missing) || e6 != e1 {
			t.Fatal("another answer")
		}
		count[e1]++
		count[e4]++
	}
	for _, e := range []api.Errno{api.OK, api.ErrArg, api.ErrType, api.ErrForm} {
		if count[e] < 5 {
			t.Error("too few with this error:", e, count)
		}
	}
}

// TestAnyProgram: whatever a program is, there are positions of DBinds.
func TestAnyProgram(t *testing.T) {
	r := rand.New(rand.NewSource(6))
	right, e := program(t, world+`f : Bool -> Int; f True = 1; g : forall a (n : Nat). n ~ 'Z => Vec a n -> Bool -> Int; g VNil False = 1; h : List a -> List a -> Bool; h Nil (Cons x y) | x = y; h x y = y;`)
	some := 0
	for range 3000 {
		p, e := deep(right), deep(e)
		mutated(r, reflect.ValueOf(&p).Elem(), 40)
		if r.Intn(3) == 0 {
			mutated(r, reflect.ValueOf(&e).Elem(), 200)
		}
		l, err := Program(p, e)
		if err != api.OK || !slices.IsSorted(l) || slices.ContainsFunc(l, func(i int) bool { return p.Decls[i].Op != api.DBind }) {
			t.Fatal(l, err)
		}
		some += len(l)
	}
	if some < 1000 {
		t.Error(some)
	}
}

// TestDeep: patterns and types can be nested as deeply as one likes.
func TestDeep(t *testing.T) {
	const depth = 1 << 16
	e := env(t)
	around := func(p api.Pat, ops ...api.Pat) []api.Pat {
		for i := range depth {
			made := ops[i%len(ops)]
			made.Args = []api.Pat{p}
			p = made
		}
		return []api.Pat{p}
	}
	s, bang, as, lazy := api.Pat{Op: api.PCon, S: "S"}, api.Pat{Op: api.PBang}, api.Pat{Op: api.PAs, S: "x"}, api.Pat{Op: api.PLazy}
	z := api.Pat{Op: api.PCon, S: "Z"}
	for i, row := range []struct {
		row              []api.Pat
		missing, useless api.Errno
	}{
		{around(z, s), api.ErrFuel, api.ErrFuel}, {around(z, bang, as), api.OK, api.OK}, {around(z, bang, as, lazy), api.OK, api.OK}, {around(z, s, bang), api.ErrFuel, api.ErrFuel}, {around(api.Pat{}, s), api.ErrArg, api.ErrArg}, {around(api.Pat{Op: api.PWild}, s, as), api.ErrFuel, api.ErrFuel},
	} {
		rows := [][]api.Pat{row.row, {{Op: api.PWild}}}
		if l, err := Missing(e, nil, typs("Nat"), rows, []bool{false, false}); err != row.missing || len(l) > 0 {
			t.Error(i, err)
		}
		if l, err := Useless(e, nil, typs("Nat"), rows, []bool{false, false}); err != row.useless || len(l) > 0 && err != api.OK {
			t.Error(i, err)
		}
	}
	value := around(z, s)
	if ok, err := Matches(around(z, s, bang), value); err != api.OK || ok {
		t.Error(ok, err)
	}
	if ok, err := Matches(value, value); err != api.OK || !ok {
		t.Error(ok, err)
	}
	typ := named("Int")
	for range depth {
		typ = applied("List", typ)
	}
	if l, err := Values(e, nil, typ, 1); err != api.ErrArg || l != nil {
		t.Error(l, err)
	}
	p, e := program(t, world+"f : Bool -> Int; f True = 1;")
	for i := range p.Decls {
		if p.Decls[i].Op == api.DSig {
			p.Decls[i].Type = typ
		}
	}
	if l, err := Program(p, e); err != api.OK || len(l) > 0 {
		t.Error(l, err)
	}
	many := make([][]api.Pat, depth)
	if l, err := Missing(e, nil, nil, many, make([]bool, depth)); err != api.ErrArg || l != nil {
		t.Error(l, err)
	}
}
