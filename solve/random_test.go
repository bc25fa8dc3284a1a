package solve

import (
	"math/rand"
	"reflect"
	"slices"
	"strconv"
	"testing"

	"damask/anew"
	"damask/api"
	"damask/internal/problem"
	"damask/internal/text"
	"damask/leave"
)

// each makes problems with wants; in half of them what is given has no metavariables.
func each(seed int64, rounds int, test func(m *problem.Maker)) {
	env := problem.Env(problem.World)
	for i := range int64(rounds) {
		m := problem.NewMaker(env, rand.New(rand.NewSource(seed+i*17)).Intn, i%3 > 0, i%4 == 0)
		if i%2 == 0 {
			m.Imply()
			m.Open()
		} else {
			m.Open()
			m.Imply()
		}
		m.Solve()
		m.Want(1 + m.Choose(6))
		test(m)
	}
}

// spoil puts something wrong into a type: what has no kind or no normal form, or needs more arguments.
func spoil(m *problem.Maker, t api.Type) api.Type {
	if len(t.Args) == 0 || m.Choose(4) == 0 {
		return read([]string{"Missing", "Spin", "Grow Int", "Elem", "Plus 'Z", "List", "Int", "Eq Int", "List List", "Int ~ Bool", "forall a. a", "Elem Int"}[m.Choose(12)])
	}
	made := api.Type{Op: t.Op, Args: slices.Clone(t.Args)}
	i := m.Choose(2)
	made.Args[i] = spoil(m, t.Args[i])
	return made
}

// result writes what a call returns, for comparisons.
func result(s string, e api.Errno) string {
	if e != api.OK {
		return "error " + strconv.Itoa(int(e))
	}
	return s
}

// TestOracle holds all that depends on an environment against the oracle.
func TestOracle(t *testing.T) {
	errors := map[api.Errno]int{}
	count := map[string]int{}
	each(1, 14000, func(m *problem.Maker) {
		if m.Choose(6) == 0 {
			n := m.Choose(len(m.Problem.Wants))
			m.Problem.Wants[n].Type = spoil(m, m.Problem.Wants[n].Type)
		}
		if n := len(m.Problem.Imps); n > 0 && m.Choose(20) == 0 {
			i := &m.Problem.Imps[m.Choose(n)]
			i.Given = append(i.Given, spoil(m, m.Constraint()))
		}
		p := m.Problem
		o := newOracle(m.Env, p)
		_, e := leave.Tried(func() bool { o.solve(); return true })
		want := result(problem.Show(o.p), e)
		q, e := Solve(m.Env, p)
		if got := result(problem.Show(q), e); got != want {
			t.Fatal(problem.Show(p), "\n", got, "\nwanted:", want)
		}
		errors[e]++
		switch {
		case e != api.OK:
		case problem.Changes(p, q) == "":
			if problem.Wants(p.Wants) != problem.Wants(q.Wants) {
				count["other wants"]++
			}
		case len(q.Wants) == 0:
			count["solved"]++
		default:
			count["partly"]++
		}
		imp := m.Imp()
		given, e := leave.Tried(func() []api.Type { return newOracle(m.Env, p).given(imp) })
		l, e2 := Given(m.Env, p, imp)
		if result(problem.Types(l), e2) != result(problem.Types(given), e) {
			t.Fatal(problem.Show(p), imp, problem.Types(l), e2, problem.Types(given), e)
		}
		for range 3 {
			w := api.Want{Imp: m.Imp(), Type: m.Constraint()}
			holds, e := leave.Tried(func() bool { return newOracle(m.Env, p).holds(w.Imp, w.Type) })
			ok, e2 := Holds(m.Env, p, w)
			if e != e2 || ok != holds {
				t.Fatal(problem.Show(p), w, ok, e2, holds, e)
			}
			if ok {
				count["held"]++
			}
		}
	})
	for _, e := range []api.Errno{api.ErrFull, api.ErrFuel, api.ErrName, api.ErrKind} {
		if errors[e] < 5 {
			t.Error("too few with this error:", e, errors)
		}
	}
	if count["solved"] < 300 || count["partly"] < 2000 || count["other wants"] < 5000 || count["held"] < 8000 {
		t.Error("too much alike:", count)
	}
}

// TestNewMemory: arguments stay as they are, and results share no memory with them, or with each other.
func TestNewMemory(t *testing.T) {
	each(2, 1000, func(m *problem.Maker) {
		p := m.Problem
		before := anew.Problem(&p)
		open, _ := Open(p)
		calls := func() (q, r api.Problem, given []api.Type) {
			q, _ = Solve(m.Env, p)
			given, _ = Given(m.Env, p, len(p.Imps)-1)
			r, _ = Unit(p, open[:min(1, len(open))])
			return q, r, given
		}
		q, r, given := calls()
		found := problem.Show(q) + problem.Show(r) + problem.Types(given)
		problem.Spoil(q, nil)
		problem.Spoil(r, nil)
		for _, g := range given {
			text.Spoil(g)
		}
		if problem.Show(p) != problem.Show(before) {
			t.Fatal("changed:", problem.Show(before))
		}
		q, r, given = calls()
		if again := problem.Show(q) + problem.Show(r) + problem.Types(given); again != found {
			t.Fatal("another result:", again, found)
		}
	})
}

// garbage makes anything, nested as one likes.
func garbage(m *problem.Maker, depth int) api.Type {
	if m.Choose(2) > 0 {
		return m.Type("Type", depth)
	}
	x := api.Type{Op: m.Choose(10), N: m.Choose(4) - 1, S: []string{"", "Elem", "Eq", "~"}[m.Choose(4)]}
	for range m.Choose(4) {
		if depth > 0 {
			x.Args = append(x.Args, garbage(m, depth-1))
		}
	}
	return x
}

// TestGarbage: there is a result for all arguments, also for environments that Build never returns, and nothing beside an error.
func TestGarbage(t *testing.T) {
	count := map[api.Errno]int{}
	check := func(e api.Errno, results ...any) {
		count[e]++
		for _, r := range results {
			if v := reflect.ValueOf(r); e != api.OK && !v.IsZero() && (v.Kind() != reflect.Slice || v.Len() > 0) {
				t.Errorf("%v beside the error %d", r, e)
			}
		}
	}
	each(3, 3000, func(m *problem.Maker) {
		p, env := anew.Problem(&m.Problem), anew.Env(&m.Env)
		switch m.Choose(4) {
		case 0:
			p.Wants = append(p.Wants, api.Want{Imp: m.Choose(9) - 3, Type: garbage(m, 2)})
		case 1:
			p.Metas[0] = api.Meta{Kind: garbage(m, 1), Level: m.Choose(3) - 1, Solved: m.Choose(2) == 0, Value: garbage(m, 2)}
		case 2:
			for i := range env.Classes {
				c := &env.Classes[i]
				c.Supers = append(c.Supers, garbage(m, 2))
				c.Deps = append(c.Deps, api.ClassDep{From: []int{m.Choose(4) - 1}, To: []int{m.Choose(4) - 1}})
			}
			for i := range env.Instances {
				in := &env.Instances[i]
				in.Context = append(in.Context, garbage(m, 2))
				in.Args = append(in.Args, garbage(m, 2))[m.Choose(2):]
			}
		}
		q, e := Solve(env, p)
		check(e, q)
		l, e := Given(env, p, m.Choose(7)-2)
		check(e, l)
		ok, e := Holds(env, p, api.Want{Imp: m.Choose(7) - 2, Type: garbage(m, 2)})
		check(e, ok)
		ok, e = Entails(env, list(garbage(m, 1)), p.Rigids, garbage(m, 2))
		check(e, ok)
		n, e := Open(p)
		check(e, n)
		q, e = Unit(p, []int{m.Choose(9) - 2, m.Choose(9) - 2})
		check(e, q)
	})
	for _, e := range []api.Errno{api.OK, api.ErrArg, api.ErrNone, api.ErrKind} {
		if count[e] < 100 {
			t.Error("too few with this error:", e, count)
		}
	}
}
