package core

import (
	"math/rand"
	"reflect"
	"testing"

	"damask/api"
	"damask/internal/problem"
	"damask/types"
)

// expected is what the oracle finds.
func (m *maker) expected(c api.Core) (api.Type, api.Errno) {
	return answer(func() api.Type {
		o := &oracle{env: m.env, sigs: m.sigs}
		s := o.surrounded(m.kinds, m.cos, m.vars)
		return s.closed(o.typeOf(s, c))
	})
}

func (m *maker) found(c api.Core) (api.Type, api.Errno) {
	return Type(m.env, m.sigs, m.kinds, m.cos, m.vars, c)
}

// try makes a term of some type, unless types become too large.
func (m *maker) try(depth int) (t api.Type, c api.Core, made bool) {
	defer func() {
		if !made {
			recover()
		}
	}()
	t = m.valued(2)
	c = m.term(t, depth)
	return t, c, isProper(&c)
}

// TestMadeTerms have the types for which they are made, and terms that are changed the types that the oracle finds.
func TestMadeTerms(t *testing.T) {
	r := rand.New(rand.NewSource(1))
	e := problem.Env(declared)
	right, stillRight, count := 0, 0, map[api.Errno]int{}
	for range 8000 {
		m := newMaker(r, e)
		want, c, made := m.try(1 + r.Intn(4))
		if !made {
			continue
		}
		got, err := m.found(c)
		expected, err2 := m.expected(c)
		if err == api.ErrFull && err2 == api.ErrFull {
			continue
		}
		if err != api.OK || err2 != api.OK || !types.Same(got, want) || !types.Same(got, expected) {
			t.Fatal(textOf(&c), showType(got), "not", showType(want), err, err2)
		}
		right++
		for range 4 {
			changed := deep(c)
			change(r, reflect.ValueOf(&changed).Elem(), 20)
			if !isProper(&changed) {
				continue
			}
			got, err := m.found(changed)
			want, err2 := m.expected(changed)
			if (err == api.OK) != (err2 == api.OK) || err == api.OK && !types.Same(got, want) || err != err2 && err != api.ErrFull && err2 != api.ErrFull {
				t.Fatal(textOf(&changed), showType(got), err, "not", showType(want), err2)
			}
			count[err]++
			if err == api.OK && !Same(c, changed) {
				stillRight++
			}
		}
	}
	if right < 6000 || stillRight < 600 || count[api.ErrCore] < 6000 {
		t.Error(right, stillRight, count)
	}
}

// change changes some fields of a term, so that it is proper mostly.
func change(r *rand.Rand, v reflect.Value, often int) {
	switch v.Type() {
	case reflect.TypeFor[api.Type]():
		if r.Intn(often) == 0 {
			names := []string{"Int", "Bool", "List", "'Z", "Plus", "Eq", "Unit2"}
			v.Set(reflect.ValueOf([]api.Type{{Op: api.YCon, S: names[r.Intn(len(names))]}, {Op: api.YVar, N: r.Intn(3)}}[r.Intn(2)]))
			return
		}
	case reflect.TypeFor[api.Core]():
		if r.Intn(often) == 0 {
			l := []api.Core{{Op: api.CVar, N: r.Intn(4)}, {Op: api.CInt}, con("True"), con("Nil"), con("Eq%"), {Op: api.CGlob, S: "eqInt"}}
			v.Set(reflect.ValueOf(l[r.Intn(len(l))]))
			return
		}
	case reflect.TypeFor[api.Co]():
		if r.Intn(often) == 0 {
			v.Set(reflect.ValueOf([]api.Co{{Op: api.OVar, N: r.Intn(2)}, {Op: api.ORefl, Types: []api.Type{named("Int")}}, {Op: api.OSym, Args: []api.Co{deep(v.Interface().(api.Co))}}, {Op: api.ORight, Args: []api.Co{deep(v.Interface().(api.Co))}}}[r.Intn(4)]))
			return
		}
	case reflect.TypeFor[[]api.CoreAlt]():
		if n := v.Len(); n > 0 && r.Intn(often) == 0 {
			i := r.Intn(n)
			v.Set(reflect.AppendSlice(v.Slice3(0, i, i), v.Slice(min(n, i+r.Intn(3)), n)))
		}
	}
	switch v.Kind() {
	case reflect.Struct:
		for i := range v.NumField() {
			change(r, v.Field(i), often)
		}
		op, n := v.FieldByName("Op"), v.FieldByName("N")
		if op.IsValid() && r.Intn(often) == 0 && (n.Int() != 0 || op.Int() == api.CVar) {
			n.SetInt(int64(r.Intn(4)))
		}
	case reflect.Slice:
		if n := v.Len(); n > 1 && v.Type() != reflect.TypeFor[[]api.Type]() && r.Intn(often) == 0 {
			a, b := v.Index(r.Intn(n)), v.Index(r.Intn(n))
			x, y := a.Interface(), b.Interface()
			a.Set(reflect.ValueOf(y))
			b.Set(reflect.ValueOf(x))
		}
		for i := range v.Len() {
			change(r, v.Index(i), often)
		}
	case reflect.String:
		if v.String() != "" && r.Intn(often*2) == 0 {
			v.SetString([]string{"Nil", "Cons", "Eq%", "Elem", "List", "five", "Age", "True"}[r.Intn(8)])
		}
	}
}
