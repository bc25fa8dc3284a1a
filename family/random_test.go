package family

import (
	"slices"
	"testing"

	"damask/api"
	"damask/internal/text"
	"damask/types"
)

// each makes types in environments that change, until there are enough of them.
func each(seed int64, rounds int, test func(m *maker, t api.Type)) {
	m := newMaker(seed)
	for i := range rounds {
		if i%20 == 0 {
			m = newMaker(seed + int64(i)*7)
		}
		if x := m.typ(2 + i%5); types.Check(x) == api.OK {
			test(m, x)
		}
	}
}

// TestSlowly: steps are made one by one, at the innermost place, the leftmost one of several.
func TestSlowly(t *testing.T) {
	count := map[api.Errno]int{}
	many := 0
	each(1, 6000, func(m *maker, x api.Type) {
		got, n, e := Normal(m.env, x)
		if e == api.ErrFuel {
			count[e]++
			return // the oracle would need too long
		}
		want, n2, e2 := m.slowly(x, 1000, innermost)
		if e != e2 || n != n2 || !types.Same(got, want) {
			t.Fatal(show(x), show(got), show(want), n, n2, e, e2)
		}
		count[e]++
		if n > 3 {
			many++
		}
	})
	if count[api.OK] < 4000 || count[api.ErrFull] < 20 || count[api.ErrFuel] < 20 || many < 300 {
		t.Error("too much alike:", count, many)
	}
}

// TestAnyOrder: the normal form is the same whatever family types are reduced first.
func TestAnyOrder(t *testing.T) {
	done, stuck := 0, 0
	each(2, 6000, func(m *maker, x api.Type) {
		want, n, e := Normal(m.env, x)
		if e != api.OK || n < 2 || n > 100 {
			return
		}
		for range 3 {
			got, _, e := m.slowly(x, 150, func(l []place) int { return m.Intn(len(l)) })
			if e == api.OK && !types.Same(got, want) {
				t.Fatal(show(x), show(got), show(want))
			}
			if e == api.OK {
				done++
			}
		}
		if plain, _ := Plain(m.env, want); !plain {
			stuck++
		}
	})
	if done < 2000 || stuck < 150 {
		t.Error("too few orders:", done, stuck)
	}
}

// filled puts types for free variables, metavariables and rigid variables.
func (m *maker) filled(t api.Type, l map[int][]api.Type) (api.Type, api.Errno) {
	for op, values := range l {
		numbers := []int{0, 1, 2}[:len(values)]
		var e api.Errno
		if op != api.YVar {
			if t, e = types.Bind(t, op, numbers); e != api.OK {
				return t, e
			}
		}
		if t, e = types.Put(t, values); e != api.OK {
			return t, e
		}
	}
	return t, api.OK
}

// values are types for one sort of variables after the other; they have variables of this sort, too, or of the others.
func (m *maker) values() map[int][]api.Type {
	op := []int{api.YVar, api.YMeta, api.YRigid}[m.Intn(3)]
	var l []api.Type
	for range map[int]int{api.YVar: 3, api.YMeta: 2, api.YRigid: 2}[op] {
		l = append(l, m.typ(m.Intn(3)))
	}
	return map[int][]api.Type{op: l}
}

// TestPutBefore: the normal form of a type with types put in is that of its normal form with them put in.
func TestPutBefore(t *testing.T) {
	done := 0
	each(3, 8000, func(m *maker, x api.Type) {
		first, n, e := Normal(m.env, x)
		values := m.values()
		early, e2 := m.filled(x, values)
		late, e3 := m.filled(first, values)
		if e != api.OK || e2 != api.OK || e3 != api.OK {
			return
		}
		a, _, e := Normal(m.env, early)
		b, n2, e2 := Normal(m.env, late)
		if e != api.OK || e2 != api.OK {
			return
		}
		if !types.Same(a, b) {
			t.Fatal(show(x), show(first), show(early), show(late), show(a), show(b))
		}
		if n > 0 && n2 > 0 && !types.Same(late, first) {
			done++
		}
	})
	if done < 500 {
		t.Error("too few types:", done)
	}
}

// eachEquation makes arguments for equations.
func eachEquation(seed int64, rounds int, test func(m *maker, name string, n int, a api.Axiom, args []api.Type)) {
	each(seed, rounds, func(m *maker, _ api.Type) {
		f := m.env.Families[m.Intn(len(m.env.Families))]
		if len(f.Eqs) == 0 {
			return
		}
		n := m.Intn(len(f.Eqs))
		args := m.args(f.Eqs[n])
		if m.Intn(4) == 0 {
			args = m.args(f.Eqs[m.Intn(len(f.Eqs))])
		}
		if !slices.ContainsFunc(args, func(x api.Type) bool { return types.Check(x) != api.OK }) {
			test(m, f.Name, n, f.Eqs[n], args)
		}
	})
}

// TestOracle holds what matches against the left sides with the types put in, and what is apart against outlines.
func TestOracle(t *testing.T) {
	count := map[[2]bool]int{}
	eachEquation(4, 12000, func(m *maker, name string, n int, a api.Axiom, args []api.Type) {
		l, ok, e := Match(m.env, name, n, args)
		apart, e2 := Apart(m.env, name, n, args)
		if e != api.OK || e2 != api.OK || ok && apart || apart != m.unlike(a, args) {
			t.Fatal(a.Left, args, ok, apart, e, e2)
		}
		for i, left := range a.Left {
			if put, _ := types.Put(left, l); ok && !types.Same(put, args[i]) {
				t.Fatal(show(left), l, show(args[i]))
			}
		}
		count[[2]bool{ok, apart}]++
		for range 3 {
			x, y := m.typ(m.Intn(4)), m.typ(m.Intn(4))
			if clash, e := Clash(m.env, x, y); clash != m.clashes(x, y) || e != api.OK {
				t.Fatal(show(x), show(y), clash, e)
			}
		}
	})
	if count[[2]bool{true, false}] < 1000 || count[[2]bool{false, true}] < 1000 || count[[2]bool{false, false}] < 300 {
		t.Error("too much alike:", count)
	}
}

// TestRemains: what is apart, what matches and what clashes remains so when types are put in.
func TestRemains(t *testing.T) {
	count := map[[2]bool]int{}
	eachEquation(5, 12000, func(m *maker, name string, n int, a api.Axiom, args []api.Type) {
		ok, apart := false, false
		values := m.values()
		var later []api.Type
		for _, x := range args {
			x, e := m.filled(x, values)
			if e != api.OK {
				return
			}
			later = append(later, x)
		}
		_, ok, _ = Match(m.env, name, n, args)
		apart, _ = Apart(m.env, name, n, args)
		_, still, e := Match(m.env, name, n, later)
		yet, e2 := Apart(m.env, name, n, later)
		if e != api.OK || e2 != api.OK || ok && !still || apart && !yet {
			t.Fatal(a.Left, args, later, ok, still, apart, yet)
		}
		if !slices.EqualFunc(args, later, types.Same) {
			count[[2]bool{ok, apart}]++
		}
	})
	if count[[2]bool{true, false}] < 300 || count[[2]bool{false, true}] < 500 || count[[2]bool{false, false}] < 100 {
		t.Error("too much alike:", count)
	}
}

// TestOverlapping: equations are said to overlap just if neither left side, with rigid variables of its own, is apart from the other one.
func TestOverlapping(t *testing.T) {
	overlap := 0
	for seed := range int64(400) {
		m := newMaker(seed)
		for _, f := range m.env.Families {
			var want [][2]int
			for i, a := range f.Eqs {
				for j, b := range f.Eqs {
					if i < j && !m.unlike(a, rigidly(b, 100)) && !m.unlike(b, rigidly(a, 200)) {
						want = append(want, [2]int{i, j})
					}
				}
			}
			if got, e := Overlaps(m.env, f.Name); e != api.OK || !slices.Equal(got, want) {
				t.Fatal(f, got, want)
			}
			overlap += len(want)
		}
	}
	if overlap < 300 {
		t.Error("too few overlap:", overlap)
	}
}

func rigidly(a api.Axiom, from int) []api.Type {
	var variables, l []api.Type
	for i := range a.Vars {
		variables = append(variables, rigid(from+i))
	}
	for _, left := range a.Left {
		t, _ := types.Put(left, variables)
		l = append(l, t)
	}
	return l
}

// TestNewMemory: arguments and environments stay as they are, and no result shares memory with them or with itself.
func TestNewMemory(t *testing.T) {
	each(6, 1500, func(m *maker, x api.Type) {
		f := m.env.Families[m.Intn(len(m.env.Families))]
		if len(f.Eqs) == 0 {
			return
		}
		args := m.args(f.Eqs[0])
		before := append(list(x), args...)
		for i := range before {
			before[i], _ = types.Shift(before[i], 0, 0)
		}
		var sides []api.Type
		for _, a := range f.Eqs {
			for _, s := range append(list(a.Right), a.Left...) {
				s, _ = types.Shift(s, 0, 0)
				sides = append(sides, s)
			}
		}
		normal, _, _ := Normal(m.env, x)
		stepped, _, _ := Step(m.env, f.Name, args)
		matched, _, _ := Match(m.env, f.Name, 0, args)
		for _, r := range append(matched, normal, stepped) {
			text.Spoil(r)
		}
		var after []api.Type
		for _, a := range f.Eqs {
			after = append(append(after, a.Right), a.Left...)
		}
		if !slices.EqualFunc(before, append(list(x), args...), types.Same) || !slices.EqualFunc(sides, after, types.Same) {
			t.Fatal("changed:", show(x))
		}
	})
}

// garbage makes anything, nested as one likes.
func (m *maker) garbage(depth int) api.Type {
	if m.Intn(3) > 0 {
		return m.typ(depth)
	}
	x := api.Type{Op: m.Intn(10), N: m.Intn(4) - 1, S: []string{"", "F0", "'Z", "~"}[m.Intn(4)]}
	for range m.Intn(4) {
		if depth > 0 {
			x.Args = append(x.Args, m.garbage(depth-1))
		}
	}
	return x
}

// TestGarbage: there is a result for all arguments, the same one again, and nothing beside an error.
func TestGarbage(t *testing.T) {
	count := map[api.Errno]int{}
	each(7, 4000, func(m *maker, x api.Type) {
		if m.Intn(2) == 0 {
			f := &m.env.Families[m.Intn(len(m.env.Families))]
			f.Arity += m.Intn(2)
			if n := len(f.Eqs); n > 0 && m.Intn(2) == 0 {
				f.Eqs[m.Intn(n)].Right = m.garbage(2)
			}
			if m.Intn(2) == 0 {
				m.env.Families = append(m.env.Families, api.Family{Name: []string{"F0", "", "Int"}[m.Intn(3)], Arity: m.Intn(3) - 1})
			}
		}
		args := list(m.garbage(2), m.garbage(1))[:m.Intn(3)]
		name, n := []string{"F0", "F1", "F2", "None", ""}[m.Intn(5)], m.Intn(4)-1
		first := answers(t, m.env, name, n, m.garbage(2), args)
		for call, e := range first {
			count[e]++
			if call == "Step" && answers(t, m.env, name, n, x, args)["Step"] != e {
				t.Fatal("another result:", call, e)
			}
		}
		*m = *newMaker(m.Int63())
	})
	for _, e := range []api.Errno{api.OK, api.ErrArg, api.ErrNone, api.ErrForm} {
		if count[e] < 100 {
			t.Error("too few with this error:", e, count)
		}
	}
}
