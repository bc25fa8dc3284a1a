package solve

import (
	"math/rand"
	"slices"
	"testing"

	"damask/api"
	"damask/internal/problem"
	"damask/types"
)

// closed makes problems with wants, in which what is given has no metavariables.
func closed(seed int64, rounds int, test func(m *problem.Maker)) {
	env := problem.Env(problem.World)
	for i := range int64(rounds) {
		m := problem.NewMaker(env, rand.New(rand.NewSource(seed+i*19)).Intn, i%3 > 0, i%4 == 0)
		m.Imply()
		m.Open()
		m.Solve()
		m.Want(1 + m.Choose(6))
		test(m)
	}
}

// TestSolvedHolds: if no want is left, all hold afterwards; what was solved stays; and to solve what is returned changes nothing.
func TestSolvedHolds(t *testing.T) {
	done, again := 0, 0
	closed(1, 12000, func(m *problem.Maker) {
		p := m.Problem
		if m.Choose(2) == 0 {
			p.Wants = p.Wants[:1]
		}
		q, e := Solve(m.Env, p)
		if e != api.OK {
			return
		}
		for _, w := range p.Wants {
			if ok, e := Holds(m.Env, q, w); len(q.Wants) == 0 && (!ok || e != api.OK) {
				t.Fatal(problem.Show(p), problem.Show(q), w, e)
			}
		}
		for n, x := range p.Metas {
			if x.Solved && !types.Same(x.Value, q.Metas[n].Value) {
				t.Fatal(problem.Show(p), problem.Show(q))
			}
		}
		r, e := Solve(m.Env, q)
		if e != api.OK || problem.Show(api.Problem{Metas: q.Metas, Wants: q.Wants}) != problem.Show(api.Problem{Metas: r.Metas, Wants: r.Wants}) {
			t.Fatal(problem.Show(p), problem.Show(q), problem.Show(r), e)
		}
		if problem.Changes(p, q) == "" {
			return
		}
		if len(q.Wants) == 0 {
			done++
		} else {
			again++
		}
	})
	if done < 600 || again < 1500 {
		t.Error("too few:", done, again)
	}
}

// TestNeedless: wants that are given, or that hold, do not change what is left of others.
func TestNeedless(t *testing.T) {
	added := 0
	closed(2, 10000, func(m *problem.Maker) {
		p := m.Problem
		q, e := Solve(m.Env, p)
		if e != api.OK {
			return
		}
		more := p
		more.Wants = slices.Clone(p.Wants)
		for range 3 {
			w := api.Want{Imp: m.Imp(), Type: m.Constraint()}
			if w.Imp >= 0 && m.Choose(2) == 0 {
				if given, _ := Given(m.Env, p, w.Imp); len(given) > 0 {
					w.Type = given[m.Choose(len(given))]
				}
			}
			if ok, e := Holds(m.Env, p, w); ok && e == api.OK {
				more.Wants = slices.Insert(more.Wants, m.Choose(len(more.Wants)+1), w)
				added++
			}
		}
		r, e := Solve(m.Env, more)
		if e == api.OK && problem.Wants(q.Wants) != problem.Wants(r.Wants) {
			t.Fatal(problem.Show(p), problem.Show(more), problem.Show(q), problem.Show(r))
		}
	})
	if added < 9000 {
		t.Error("too few:", added)
	}
}

// TestOrder: with nothing given, and plain wants, their order does not decide whether there are some left.
func TestOrder(t *testing.T) {
	env := problem.Env(problem.World)
	count := map[bool]int{}
	for i := range int64(15000) {
		m := problem.NewMaker(env, rand.New(rand.NewSource(i)).Intn, false, i%3 == 0)
		m.Open()
		m.Solve()
		m.Want(2 + m.Choose(3))
		q, e := Solve(env, m.Problem)
		turned := m.Problem
		turned.Wants = slices.Clone(turned.Wants)
		slices.Reverse(turned.Wants)
		if n := m.Choose(len(turned.Wants)); n > 0 {
			turned.Wants[0], turned.Wants[n] = turned.Wants[n], turned.Wants[0]
		}
		r, e2 := Solve(env, turned)
		if e != api.OK || e2 != api.OK {
			continue
		}
		if (len(q.Wants) == 0) != (len(r.Wants) == 0) {
			t.Fatal(problem.Show(m.Problem), problem.Show(q), problem.Show(r))
		}
		count[len(q.Wants) == 0]++
	}
	if count[true] < 1000 || count[false] < 1000 {
		t.Error("too much alike:", count)
	}
}
