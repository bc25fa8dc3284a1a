package unify

import (
	"math/rand"
	"slices"
	"testing"

	"damask/api"
	"damask/internal/problem"
	"damask/kind"
	"damask/leave"
	"damask/types"
)

// closed makes problems in which what is given has no metavariables.
func closed(seed int64, rounds int, test func(m *problem.Maker, imp int)) {
	env := problem.Env(problem.World)
	for i := range int64(rounds) {
		m := problem.NewMaker(env, rand.New(rand.NewSource(seed+i*13)).Intn, i%3 > 0, i%4 == 0)
		m.Imply()
		m.Open()
		m.Solve()
		test(m, m.Imp())
	}
}

// TestSolution: if nothing is left, both types are the same afterwards; and what holds before holds afterwards.
func TestSolution(t *testing.T) {
	solved, held := 0, 0
	closed(100, 12000, func(m *problem.Maker, imp int) {
		a, b := m.Sides()
		q, left, e := Unify(m.Env, m.Problem, imp, a, b)
		if e != api.OK {
			return
		}
		if ok, e := Holds(m.Env, q, imp, a, b); len(left) == 0 && (!ok || e != api.OK) {
			t.Fatal(problem.Show(m.Problem), imp, show(a), show(b), problem.Changes(m.Problem, q), e)
		}
		if len(left) == 0 && problem.Changes(m.Problem, q) != "" {
			solved++
		}
		for range 3 {
			c, d := m.Sides()
			before, _ := Holds(m.Env, m.Problem, imp, c, d)
			after, e := Holds(m.Env, q, imp, c, d)
			if before && !after && e == api.OK {
				t.Fatal(problem.Show(m.Problem), imp, show(a), show(b), problem.Changes(m.Problem, q), show(c), show(d))
			}
			if before && !types.Same(c, d) {
				held++
			}
		}
	})
	if solved < 1500 || held < 500 {
		t.Error("too few:", solved, held)
	}
}

// instance is a problem without implications, with two plain types, and values for all metavariables by which these are the same.
type instance struct {
	p      api.Problem
	a, b   api.Type
	values []api.Type
}

// newInstance makes a type, and replaces parts of it by metavariables of their kinds, in two ways.
func newInstance(m *problem.Maker) instance {
	made := instance{p: m.Problem}
	for i := range made.p.Rigids {
		made.p.Rigids[i].Level = m.Choose(2)
	}
	whole := m.Type("Type", 2+m.Choose(3))
	var cut func(t api.Type) api.Type
	cut = func(t api.Type) api.Type {
		k, e := kind.Kind(m.Env, nil, made.p.Rigids, nil, t)
		if e != api.OK || m.Choose(3) > 0 {
			copied := t
			copied.Args = nil
			for _, x := range t.Args {
				copied.Args = append(copied.Args, cut(x))
			}
			return copied
		}
		for n, v := range made.values {
			if types.Same(v, t) && m.Choose(3) > 0 {
				return meta(n)
			}
		}
		made.values = append(made.values, t)
		made.p.Metas = append(made.p.Metas, api.Meta{Kind: k, Level: 1 + m.Choose(3)})
		return meta(len(made.values) - 1)
	}
	made.a, made.b = cut(whole), cut(whole)
	return made
}

// filled puts the values of an instance for metavariables.
func (in instance) filled(t api.Type) api.Type {
	var numbers []int
	for n := range in.values {
		numbers = append(numbers, n)
	}
	b, _ := types.Bind(t, api.YMeta, numbers)
	made, _ := types.Put(b, in.values)
	return made
}

// TestMostGeneral: where values make two types the same, nothing is left, and what is found becomes these values by those of what is open.
func TestMostGeneral(t *testing.T) {
	env := problem.Env(problem.World)
	open := 0
	for i := range int64(6000) {
		in := newInstance(problem.NewMaker(env, rand.New(rand.NewSource(i)).Intn, false, false))
		_, e := kind.Kind(env, in.p.Metas, in.p.Rigids, nil, in.a)
		_, e2 := kind.Kind(env, in.p.Metas, in.p.Rigids, nil, in.b)
		if e != api.OK || e2 != api.OK {
			continue // Proxy has the kind of what it is applied to as an argument
		}
		q, left, e := Unify(env, in.p, -1, in.a, in.b)
		if e != api.OK || len(left) > 0 {
			t.Fatal(show(in.a), show(in.b), problem.Show(in.p), problem.Wants(left), e)
		}
		for n, m := range q.Metas {
			x, e := types.Resolve(q.Metas, meta(n))
			if e != api.OK || !types.Same(in.filled(x), in.values[n]) {
				t.Fatal(show(in.a), show(in.b), problem.Changes(in.p, q), n, show(x), show(in.values[n]))
			}
			if !m.Solved {
				open++
			}
		}
	}
	if open < 2000 {
		t.Error("too few stay open:", open)
	}
}

// TestTurnedRound: something is left just if it is when both types are turned round.
func TestTurnedRound(t *testing.T) {
	env := problem.Env(problem.World)
	count := map[bool]int{}
	for i := range int64(12000) {
		m := problem.NewMaker(env, rand.New(rand.NewSource(i)).Intn, false, i%2 == 0)
		m.Open()
		m.Solve()
		a, b := m.Sides()
		_, l, e := Unify(env, m.Problem, -1, a, b)
		_, l2, e2 := Unify(env, m.Problem, -1, b, a)
		if e == api.OK && e2 == api.OK && (len(l) == 0) != (len(l2) == 0) {
			t.Fatal(problem.Show(m.Problem), show(a), show(b), problem.Wants(l), problem.Wants(l2))
		}
		count[len(l) == 0]++
	}
	if count[true] < 3000 || count[false] < 3000 {
		t.Error("too much alike:", count)
	}
}

// TestFurtherGiven: what holds remains so when more is given, unless that is impossible, or passed over.
func TestFurtherGiven(t *testing.T) {
	done, changed := 0, 0
	closed(200, 20000, func(m *problem.Maker, imp int) {
		if imp < 0 {
			return
		}
		more := m.Problem
		more.Imps = slices.Clone(more.Imps)
		metas := m.Problem.Metas
		m.Problem.Metas = nil
		for range 1 + m.Choose(2) {
			c, d := m.Sides()
			more.Imps[imp].Given = append(slices.Clip(more.Imps[imp].Given), problem.Equation(c, d))
		}
		m.Problem.Metas = metas
		if Check(more) != api.OK {
			return
		}
		o := newOracle(m.Env, more, imp)
		impossible, e := leave.Tried(func() bool { _, wrong := o.rules(); return wrong })
		if impossible || o.passed || e != api.OK {
			return
		}
		for range 4 {
			a, b := m.Sides()
			before, _ := Holds(m.Env, m.Problem, imp, a, b)
			after, e := Holds(m.Env, more, imp, a, b)
			if before && !after && e == api.OK {
				t.Fatal(problem.Show(m.Problem), problem.Show(more), imp, show(a), show(b))
			}
			if before && !types.Same(a, b) {
				done++
			}
			if before != after {
				changed++
			}
		}
	})
	if done < 200 || changed < 50 {
		t.Error("too few:", done, changed)
	}
}
