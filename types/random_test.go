package types

import (
	"math/rand"
	"reflect"
	"slices"
	"testing"

	"damask/anew"
	"damask/api"
	"damask/internal/text"
)

const rounds = 3000

// maker makes random proper types.
type maker struct{ *rand.Rand }

func newMaker(seed int64) maker { return maker{rand.New(rand.NewSource(seed))} }

func (m maker) typ(depth int) api.Type {
	in := func() api.Type { return m.typ(depth - 1 - m.Intn(2)) }
	switch n := m.Intn(9); {
	case depth <= 0 || n < 2:
		return []api.Type{con("A"), con("->"), bound(m.Intn(6)), meta(m.Intn(4)), rigid(m.Intn(4))}[m.Intn(5)]
	case n < 5:
		return app(in(), in())
	case n == 5:
		return fun(in(), in())
	case n == 6:
		return imp(in(), in())
	}
	return all(in(), in())
}

func (m maker) list(n int) []api.Type {
	var l []api.Type
	for range n {
		l = append(l, m.typ(3))
	}
	return l
}

// TestShiftBack: a shift by d and then by -d leads back.
func TestShiftBack(t *testing.T) {
	m := newMaker(1)
	for range rounds {
		x, by, from := m.typ(6), m.Intn(9), m.Intn(5)
		there, e := Shift(x, by, from)
		back, e2 := Shift(there, -by, from)
		if e != api.OK || e2 != api.OK || !Same(back, x) {
			t.Fatal(x, by, from, there, e, e2)
		}
		free, _ := Free(x)
		moved, _ := Free(there)
		for i, n := range free {
			if n >= from {
				n += by
			}
			if moved[i] != n {
				t.Fatal(x, by, from, free, moved)
			}
		}
	}
}

// TestPutNothing: to put types for variables that do not occur is to shift.
func TestPutNothing(t *testing.T) {
	m := newMaker(2)
	for range rounds {
		x, l := m.typ(6), m.list(m.Intn(4))
		lifted, e := Shift(x, len(l), 0)
		put, e2 := Put(lifted, l)
		if e != api.OK || e2 != api.OK || !Same(put, x) {
			t.Fatal(x, l, put, e, e2)
		}
	}
}

// TestBindBack: to put the variables themselves for what Bind binds leads back.
func TestBindBack(t *testing.T) {
	m := newMaker(3)
	for range rounds {
		x, op := m.typ(6), api.YMeta+m.Intn(2)
		l := m.Perm(5)[:m.Intn(6)]
		b, e := Bind(x, op, l)
		var themselves []api.Type
		for _, n := range l {
			themselves = append(themselves, api.Type{Op: op, N: n})
		}
		back, e2 := Put(b, themselves)
		if e != api.OK || e2 != api.OK || !Same(back, x) {
			t.Fatal(x, op, l, b, back)
		}
		left, _ := numbersOf(b, op)
		if slices.ContainsFunc(left, func(n int) bool { return slices.Contains(l, n) }) {
			t.Fatal("not bound:", x, op, l, b)
		}
	}
}

// TestPutOneByOne: to put a list is to put its types one after the other, the last one first.
func TestPutOneByOne(t *testing.T) {
	m := newMaker(4)
	for range rounds {
		x, a, b := m.typ(5), m.typ(3), m.typ(3)
		both, e := Put(x, list(a, b))
		lifted, _ := Shift(b, 1, 0)
		first, e2 := Put(x, list(lifted))
		second, e3 := Put(first, list(a))
		if e != api.OK || e2 != api.OK || e3 != api.OK || !Same(both, second) {
			t.Fatal(x, a, b, both, second)
		}
	}
}

// TestTotal: Order is 0 for the same types alone, is turned round with them, and goes on over a third one.
func TestTotal(t *testing.T) {
	m := newMaker(5)
	for range rounds {
		depth := m.Intn(4)
		a, b, c := m.typ(depth), m.typ(depth), m.typ(depth)
		ab, _ := Order(a, b)
		ba, _ := Order(b, a)
		bc, _ := Order(b, c)
		ac, _ := Order(a, c)
		if (ab == 0) != Same(a, b) || ab != -ba || Same(a, b) != reflect.DeepEqual(a, b) {
			t.Fatal(a, b, ab, ba)
		}
		if ab <= 0 && bc <= 0 && (ac > 0 || ac == 0 && ab+bc != 0) {
			t.Fatal(a, b, c)
		}
	}
}

// TestTakenApart: what Spine and Arguments find is put together again by Apply and Fun.
func TestTakenApart(t *testing.T) {
	m := newMaker(6)
	for range rounds {
		x := m.typ(6)
		head, l, _ := Spine(x)
		if y, e := Apply(head, l); head.Op == api.YApp || e != api.OK || !Same(x, y) {
			t.Fatal(x, head, l)
		}
		l, result, _ := Arguments(x)
		if y, e := Fun(l, result); isFunction(result) || e != api.OK || !Same(x, y) {
			t.Fatal(x, l, result)
		}
	}
}

// TestResolveAll holds Resolve against single replacements, done again and again.
func TestResolveAll(t *testing.T) {
	m := newMaker(7)
	count := map[api.Errno]int{}
	for range rounds {
		var metas []api.Meta
		for range 4 {
			value, _ := Shift(m.typ(2), 0, 0)
			metas = append(metas, api.Meta{Solved: m.Intn(3) > 0, Value: value})
		}
		x := m.typ(4)
		got, e := Resolve(metas, x)
		count[e]++
		want, found := replaced(metas, x)
		if found != (e == api.OK) || found && !Same(got, want) {
			t.Fatal(metas, x, got, e)
		}
	}
	if count[api.OK] < rounds/20 || count[api.ErrArg] < rounds/20 {
		t.Error("too much alike:", count)
	}
}

// replaced replaces one solved metavariable after the other; a ring would go on for ever.
func replaced(metas []api.Meta, x api.Type) (api.Type, bool) {
	all := x
	for _, m := range metas {
		if m.Solved {
			if l, _ := Free(m.Value); len(l) > 0 {
				return api.Type{}, false
			}
			all = app(all, m.Value)
		}
	}
	for range 5 {
		for n, m := range metas {
			b, _ := Bind(all, api.YMeta, []int{n})
			if m.Solved {
				all, _ = Put(b, list(m.Value))
			}
		}
	}
	if l, _ := Metas(all); all.Op == 0 || slices.ContainsFunc(l, func(n int) bool { return metas[n].Solved }) {
		return api.Type{}, false
	}
	for _, m := range metas {
		if m.Solved {
			all = all.Args[0]
		}
	}
	return all, true
}

// TestNewMemory: no function changes what it is given, and no result shares memory with it.
func TestNewMemory(t *testing.T) {
	m := newMaker(8)
	for range 300 {
		x, l := m.typ(4), m.list(3)
		metas := []api.Meta{solved(fun(con("A"), con("B"))), {}, {}, {}}
		before := fun(anew.Type(&x), fun(anew.Type(&l[0]), fun(anew.Type(&l[1]), anew.Type(&l[2]))))
		head, parts, _ := Spine(x)
		arguments, result, _ := Arguments(x)
		a, _ := Shift(x, 1, 0)
		b, _ := Put(x, l)
		c, _ := Apply(x, l)
		d, _ := Fun(l, x)
		f, _ := Resolve(metas, x)
		g, _ := Bind(x, api.YMeta, []int{0})
		for _, y := range append(append(list(head, result, a, b, c, d, f, g), parts...), arguments...) {
			text.Spoil(y)
		}
		if !Same(before, fun(x, fun(l[0], fun(l[1], l[2])))) || !Same(metas[0].Value, fun(con("A"), con("B"))) {
			t.Fatal("changed:", before)
		}
	}
}
