package types

import (
	"reflect"
	"slices"
	"strings"
	"testing"

	"damask/api"
	"damask/internal/text"
)

func con(s string) api.Type         { return api.Type{Op: api.YCon, S: s} }
func bound(n int) api.Type          { return api.Type{Op: api.YVar, N: n} }
func meta(n int) api.Type           { return api.Type{Op: api.YMeta, N: n} }
func rigid(n int) api.Type          { return api.Type{Op: api.YRigid, N: n} }
func app(f, a api.Type) api.Type    { return api.Type{Op: api.YApp, Args: []api.Type{f, a}} }
func fun(a, b api.Type) api.Type    { return app(app(con("->"), a), b) }
func all(k, b api.Type) api.Type    { return api.Type{Op: api.YAll, Args: []api.Type{k, b}} }
func imp(c, b api.Type) api.Type    { return api.Type{Op: api.YImp, Args: []api.Type{c, b}} }
func list(l ...api.Type) []api.Type { return l }
func deep(n int) api.Type           { return text.Deep(n) }
func wide(n int) api.Type           { return text.Wide(n) }
func solved(t api.Type) api.Meta    { return api.Meta{Solved: true, Value: t} }

// improper are types each of which breaks the rules in another way.
func improper() []api.Type {
	return []api.Type{
		{}, {Op: -1}, {Op: api.YName, S: "a"}, {Op: 9, S: "A"},
		bound(-1), bound(10000), meta(-1), meta(10000), rigid(-1), rigid(10000),
		{Op: api.YVar, S: "a"}, {Op: api.YVar, Args: list(con("A"))}, {Op: api.YMeta, S: "a"}, {Op: api.YRigid, Args: list(con("A"))},
		con(""), con(strings.Repeat("A", 41)), {Op: api.YCon, S: "A", N: 1}, {Op: api.YCon, S: "A", Args: list(con("A"))},
		{Op: api.YApp}, {Op: api.YApp, Args: list(con("A"))}, {Op: api.YApp, Args: list(con("A"), con("A"), con("A"))},
		{Op: api.YApp, N: 1, Args: list(con("A"), con("A"))}, {Op: api.YApp, S: "A", Args: list(con("A"), con("A"))},
		{Op: api.YAll, Args: list(con("A"))}, {Op: api.YAll, S: "a", Args: list(con("Type"), con("A"))}, {Op: api.YAll, N: 1, Args: list(con("A"), con("A"))},
		{Op: api.YImp, Args: list(con("A"))}, {Op: api.YImp, S: "a", Args: list(con("A"), con("A"))},
		app(con("A"), con("")), all(con(""), con("A")), imp(con("A"), api.Type{}),
		deep(41), wide(9), deep(1 << 16),
	}
}

func TestCheck(t *testing.T) {
	for _, x := range []api.Type{con("A"), con(strings.Repeat("A", 40)), con("\x00"), bound(0), bound(9999), meta(9999), rigid(9999),
		all(con("Type"), imp(con("C"), fun(bound(0), bound(7)))), deep(40), wide(8), {Op: api.YCon, S: "A", Args: list()}} {
		if e := Check(x); e != api.OK {
			t.Error(x, e)
		}
	}
	for i, x := range improper() {
		if e := Check(x); e != api.ErrArg {
			t.Error(i, e)
		}
	}
	if e := Check(sized(599)); e != api.OK {
		t.Error("599 nodes", e)
	}
	if e := Check(sized(601)); e != api.ErrArg {
		t.Error("601 nodes", e)
	}
}

// sized has so many nodes, an odd number as every type, and is not deep.
func sized(n int) api.Type {
	if n == 1 {
		return con("A")
	}
	left := (n - 1) / 2
	left -= 1 - left%2
	return app(sized(left), sized(n-1-left))
}

// TestImproper gives each function each improper type in each place.
func TestImproper(t *testing.T) {
	ok := con("A")
	for i, x := range improper() {
		calls := map[string]func() api.Errno{
			"Shift":     func() api.Errno { r, e := Shift(x, 0, 0); return zero(t, e, r) },
			"Put":       func() api.Errno { r, e := Put(x, nil); return zero(t, e, r) },
			"Put l":     func() api.Errno { r, e := Put(ok, list(ok, x)); return zero(t, e, r) },
			"Free":      func() api.Errno { r, e := Free(x); return zero(t, e, r) },
			"Metas":     func() api.Errno { r, e := Metas(x); return zero(t, e, r) },
			"Rigids":    func() api.Errno { r, e := Rigids(x); return zero(t, e, r) },
			"Spine":     func() api.Errno { r, l, e := Spine(x); return zero(t, e, r, l) },
			"Apply":     func() api.Errno { r, e := Apply(x, nil); return zero(t, e, r) },
			"Apply l":   func() api.Errno { r, e := Apply(ok, list(ok, x)); return zero(t, e, r) },
			"Fun":       func() api.Errno { r, e := Fun(nil, x); return zero(t, e, r) },
			"Fun l":     func() api.Errno { r, e := Fun(list(ok, x), ok); return zero(t, e, r) },
			"Arguments": func() api.Errno { l, r, e := Arguments(x); return zero(t, e, l, r) },
			"Resolve":   func() api.Errno { r, e := Resolve(nil, x); return zero(t, e, r) },
			"Resolve l": func() api.Errno { r, e := Resolve([]api.Meta{solved(ok), solved(x)}, ok); return zero(t, e, r) },
			"Bind":      func() api.Errno { r, e := Bind(x, api.YMeta, nil); return zero(t, e, r) },
			"Order a":   func() api.Errno { r, e := Order(x, ok); return zero(t, e, r) },
			"Order b":   func() api.Errno { r, e := Order(ok, x); return zero(t, e, r) },
			"Size":      func() api.Errno { r, e := Size(x); return zero(t, e, r) },
		}
		for name, call := range calls {
			if e := call(); e != api.ErrArg {
				t.Error(name, i, e)
			}
		}
	}
}

// zero wants that all results beside an error are zero.
func zero(t *testing.T, e api.Errno, results ...any) api.Errno {
	t.Helper()
	for _, r := range results {
		if v := reflect.ValueOf(r); e != api.OK && !(v.IsZero() || v.Kind() == reflect.Slice && v.Len() == 0) {
			t.Error("a result beside the error", e, r)
		}
	}
	return e
}

// TestLongLists gives lists at the limit, and longer ones.
func TestLongLists(t *testing.T) {
	ok := con("A")
	types := func(n int) []api.Type { return slices.Repeat(list(ok), n) }
	numbers := func(n int) []int {
		l := make([]int, n)
		for i := range l {
			l[i] = i
		}
		return l
	}
	calls := map[string]func(n int) api.Errno{
		"Put":     func(n int) api.Errno { _, e := Put(ok, types(n)); return e },
		"Apply":   func(n int) api.Errno { _, e := Apply(ok, types(n)); return e },
		"Fun":     func(n int) api.Errno { _, e := Fun(types(n), ok); return e },
		"Resolve": func(n int) api.Errno { _, e := Resolve(make([]api.Meta, n), ok); return e },
		"Bind":    func(n int) api.Errno { _, e := Bind(ok, api.YMeta, numbers(n)); return e },
	}
	for name, call := range calls {
		want := api.OK
		if name == "Apply" || name == "Fun" {
			want = api.ErrFull
		}
		if e := call(600); e != want {
			t.Error(name, 600, e)
		}
		if e := call(601); e != api.ErrArg {
			t.Error(name, 601, e)
		}
	}
}

func TestShift(t *testing.T) {
	x := all(bound(1), fun(bound(0), fun(bound(1), bound(3))))
	for _, c := range []struct {
		by, from int
		want     api.Type
		e        api.Errno
	}{
		{2, 0, all(bound(3), fun(bound(0), fun(bound(3), bound(5)))), api.OK},
		{2, 1, all(bound(3), fun(bound(0), fun(bound(1), bound(5)))), api.OK},
		{2, 2, all(bound(1), fun(bound(0), fun(bound(1), bound(5)))), api.OK},
		{9999, 3, x, api.OK},
		{-9999, 9999, x, api.OK},
		{-1, 1, all(bound(0), bound(0)), api.ErrNone},
		{-1, 2, all(bound(0), bound(0)), api.ErrNone},
		{-1, 0, all(bound(0), bound(0)), api.ErrNone},
		{9997, 2, api.Type{}, api.ErrFull},
		{9996, 2, all(bound(1), fun(bound(0), fun(bound(1), bound(9999)))), api.OK},
		{10000, 0, api.Type{}, api.ErrArg},
		{-10000, 0, api.Type{}, api.ErrArg},
		{-1 << 63, 0, api.Type{}, api.ErrArg},
		{1<<63 - 1, 0, api.Type{}, api.ErrArg},
		{0, -1, api.Type{}, api.ErrArg},
		{0, 10000, api.Type{}, api.ErrArg},
	} {
		got, e := Shift(x, c.by, c.from)
		if e != c.e || e == api.OK && !Same(got, c.want) || e != api.OK && !Same(got, api.Type{}) {
			t.Error(c.by, c.from, got, e)
		}
	}
	if got, e := Shift(fun(bound(5), meta(5)), -3, 2); e != api.OK || !Same(got, fun(bound(2), meta(5))) {
		t.Error(got, e)
	}
}

func TestPut(t *testing.T) {
	x := fun(bound(1), bound(0))
	for _, c := range []struct {
		t    api.Type
		l    []api.Type
		want api.Type
	}{
		{x, list(con("Int")), fun(bound(0), con("Int"))}, // the first example of the chapter
		{x, list(con("A"), con("B")), fun(con("A"), con("B"))},
		{x, nil, x},
		{all(bound(0), fun(bound(0), bound(1))), list(bound(4)), all(bound(4), fun(bound(0), bound(5)))},
		{all(con("Type"), bound(3)), list(con("A"), con("B")), all(con("Type"), bound(1))},
		{all(con("Type"), bound(2)), list(all(con("Type"), bound(1)), con("B")), all(con("Type"), all(con("Type"), bound(2)))},
		{imp(bound(0), rigid(0)), list(meta(0)), imp(meta(0), rigid(0))},
	} {
		if got, e := Put(c.t, c.l); e != api.OK || !Same(got, c.want) {
			t.Error(c, got, e)
		}
	}
	for i, c := range []struct {
		t api.Type
		l []api.Type
	}{
		{app(bound(0), bound(0)), list(wide(8))},
		{all(con("Type"), bound(1)), list(bound(9999))},
		{app(bound(0), con("A")), list(deep(40))},
	} {
		if got, e := Put(c.t, c.l); e != api.ErrFull || !Same(got, api.Type{}) {
			t.Error(i, got, e)
		}
	}
}

func TestNumbers(t *testing.T) {
	x := all(fun(bound(7), meta(3)), fun(fun(bound(0), bound(3)), fun(fun(rigid(8), meta(9999)), fun(bound(8), fun(rigid(1), meta(3))))))
	free, e1 := Free(x)
	metas, e2 := Metas(x)
	rigids, e3 := Rigids(x)
	if !slices.Equal(free, []int{2, 7}) || !slices.Equal(metas, []int{3, 9999}) || !slices.Equal(rigids, []int{1, 8}) || e1+e2+e3 != api.OK {
		t.Error(free, metas, rigids, e1, e2, e3)
	}
	if l, e := Free(all(con("Type"), bound(0))); len(l) != 0 || e != api.OK {
		t.Error(l, e)
	}
}

func TestSpines(t *testing.T) {
	vec := app(app(con("Vec"), bound(0)), con("'Z"))
	if h, l, e := Spine(vec); e != api.OK || !Same(h, con("Vec")) || len(l) != 2 || !Same(l[0], bound(0)) || !Same(l[1], con("'Z")) {
		t.Error(h, l, e)
	}
	x := all(con("Type"), bound(0))
	if h, l, e := Spine(app(x, con("A"))); e != api.OK || !Same(h, x) || len(l) != 1 {
		t.Error(h, l, e)
	}
	if h, l, e := Spine(x); e != api.OK || !Same(h, x) || len(l) != 0 {
		t.Error(h, l, e)
	}
	if got, e := Apply(con("Vec"), list(bound(0), con("'Z"))); e != api.OK || !Same(got, vec) {
		t.Error(got, e)
	}
	if got, e := Apply(con("A"), slices.Repeat(list(con("A")), 39)); e != api.OK || !Same(got, deep(40)) {
		t.Error(got, e)
	}
	if _, e := Apply(con("A"), slices.Repeat(list(con("A")), 40)); e != api.ErrFull {
		t.Error(e)
	}
	f := fun(con("Int"), fun(con("Bool"), con("Int")))
	if l, r, e := Arguments(f); e != api.OK || len(l) != 2 || !Same(l[0], con("Int")) || !Same(l[1], con("Bool")) || !Same(r, con("Int")) {
		t.Error(l, r, e)
	}
	for _, x := range []api.Type{con("->"), app(con("->"), con("A")), app(f, con("A")), all(con("Type"), f), imp(con("C"), f), app(app(con("-->"), con("A")), con("A"))} {
		if l, r, e := Arguments(x); e != api.OK || len(l) != 0 || !Same(r, x) {
			t.Error(l, r, e)
		}
	}
	if got, e := Fun(list(con("Int"), con("Bool")), con("Int")); e != api.OK || !Same(got, f) {
		t.Error(got, e)
	}
	if got, e := Fun(nil, f); e != api.OK || !Same(got, f) {
		t.Error(got, e)
	}
	if _, e := Fun(slices.Repeat(list(con("A")), 38), con("A")); e != api.OK {
		t.Error(e)
	}
	if _, e := Fun(slices.Repeat(list(con("A")), 39), con("A")); e != api.ErrFull {
		t.Error(e)
	}
}

func TestSame(t *testing.T) {
	odd := api.Type{Op: 99, N: -1, S: "?", Args: list(con("A"))}
	if !Same(odd, odd) || !Same(api.Type{}, api.Type{Args: list()}) || !Same(deep(1<<16), deep(1<<16)) {
		t.Error("the same ones")
	}
	for _, x := range []api.Type{{Op: 98, N: -1, S: "?", Args: list(con("A"))}, {Op: 99, S: "?", Args: list(con("A"))}, {Op: 99, N: -1, Args: list(con("A"))}, {Op: 99, N: -1, S: "?"}, {Op: 99, N: -1, S: "?", Args: list(con("B"))}} {
		if Same(odd, x) || Same(x, odd) {
			t.Error(x)
		}
	}
}

func TestOrder(t *testing.T) {
	ascending := []api.Type{
		bound(0), bound(1), con("A"), con("AA"), con("B"), meta(0), meta(2), rigid(0), rigid(3),
		app(bound(0), bound(1)), app(con("A"), con("A")), app(con("A"), con("B")), app(con("B"), con("A")),
		all(con("A"), con("A")), imp(con("A"), con("A")),
		app(bound(0), app(rigid(9), rigid(9))), app(app(bound(0), bound(0)), bound(0)),
	}
	for i, a := range ascending {
		for j, b := range ascending {
			want := 0
			if i < j {
				want = -1
			} else if i > j {
				want = 1
			}
			if got, e := Order(a, b); got != want || e != api.OK {
				t.Error(a, b, got, e)
			}
		}
	}
	if n, e := Size(all(con("A"), fun(bound(0), con("B")))); n != 7 || e != api.OK {
		t.Error(n, e)
	}
	if n, e := Size(con("A")); n != 1 || e != api.OK {
		t.Error(n, e)
	}
}

func TestResolve(t *testing.T) {
	metas := []api.Meta{solved(fun(meta(1), meta(2))), solved(con("Int")), {}, solved(app(meta(0), meta(1)))}
	x := all(con("Type"), fun(bound(0), fun(meta(3), rigid(7))))
	first := fun(con("Int"), meta(2))
	want := all(con("Type"), fun(bound(0), fun(app(first, con("Int")), rigid(7))))
	if got, e := Resolve(metas, x); e != api.OK || !Same(got, want) {
		t.Error(got, e)
	}
	if got, e := Resolve([]api.Meta{{Value: con("Int")}}, meta(0)); e != api.OK || !Same(got, meta(0)) {
		t.Error("not solved:", got, e)
	}
	for i, c := range []struct {
		metas []api.Meta
		t     api.Type
		e     api.Errno
	}{
		{nil, meta(0), api.ErrArg},
		{[]api.Meta{solved(con("A"))}, fun(meta(0), meta(1)), api.ErrArg},
		{[]api.Meta{solved(meta(1))}, meta(0), api.ErrArg},
		{[]api.Meta{solved(bound(0))}, meta(0), api.ErrArg},
		{[]api.Meta{solved(all(con("Type"), bound(1)))}, con("A"), api.ErrArg},
		{[]api.Meta{solved(all(con("Type"), bound(0)))}, meta(0), api.OK},
		{[]api.Meta{solved(meta(0))}, meta(0), api.ErrArg},
		{[]api.Meta{solved(con("A")), solved(fun(meta(0), meta(2))), solved(app(con("A"), meta(1)))}, con("A"), api.ErrArg},
		{[]api.Meta{solved(wide(8)), solved(app(meta(0), meta(0)))}, meta(1), api.ErrFull},
		{[]api.Meta{solved(wide(8)), solved(app(meta(0), meta(0)))}, meta(0), api.OK},
		{[]api.Meta{solved(deep(40))}, app(meta(0), con("A")), api.ErrFull},
		{doubling(30), meta(29), api.ErrFull},
		{doubling(600), meta(599), api.ErrFull},
		{doubling(600), meta(8), api.OK},
	} {
		if got, e := Resolve(c.metas, c.t); e != c.e || e != api.OK && !Same(got, api.Type{}) {
			t.Error(i, got, e)
		}
	}
}

// doubling has values of which each is twice the one before.
func doubling(n int) []api.Meta {
	l := []api.Meta{solved(con("A"))}
	for i := 1; i < n; i++ {
		l = append(l, solved(app(meta(i-1), meta(i-1))))
	}
	return l
}

func TestBind(t *testing.T) {
	x := all(rigid(3), fun(rigid(3), fun(meta(3), fun(bound(0), fun(bound(1), rigid(5))))))
	want := all(bound(1), fun(bound(2), fun(meta(3), fun(bound(0), fun(bound(3), bound(1))))))
	if got, e := Bind(x, api.YRigid, []int{3, 5}); e != api.OK || !Same(got, want) {
		t.Error(got, e)
	}
	want = all(rigid(3), fun(rigid(3), fun(bound(1), fun(bound(0), fun(bound(2), rigid(5))))))
	if got, e := Bind(x, api.YMeta, []int{3}); e != api.OK || !Same(got, want) {
		t.Error(got, e)
	}
	for i, c := range []struct {
		t  api.Type
		op int
		l  []int
		e  api.Errno
	}{
		{x, api.YVar, nil, api.ErrArg}, {x, 0, nil, api.ErrArg}, {x, api.YName, nil, api.ErrArg},
		{x, api.YRigid, []int{3, 5, 3}, api.ErrArg}, {x, api.YRigid, []int{-1}, api.ErrArg}, {x, api.YMeta, []int{10000}, api.ErrArg},
		{bound(9999), api.YMeta, []int{0}, api.ErrFull}, {bound(9999), api.YMeta, nil, api.OK},
	} {
		if got, e := Bind(c.t, c.op, c.l); e != c.e || e != api.OK && !Same(got, api.Type{}) {
			t.Error(i, got, e)
		}
	}
}
