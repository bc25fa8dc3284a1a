package unify

import (
	"math/rand"
	"slices"
	"strconv"
	"testing"

	"damask/anew"
	"damask/api"
	"damask/internal/problem"
	"damask/internal/text"
	"damask/leave"
	"damask/types"
)

// each makes problems, and in each of them an implication and two types.
func each(seed int64, rounds int, test func(m *problem.Maker, imp int, a, b api.Type)) {
	env := problem.Env(problem.World)
	for i := range int64(rounds) {
		m := problem.NewMaker(env, rand.New(rand.NewSource(seed+i*11)).Intn, i%3 > 0, i%4 == 0)
		m.Open()
		m.Imply()
		m.Solve()
		m.Want(m.Choose(3))
		imp := m.Imp()
		a, b := m.Sides()
		test(m, imp, a, b)
	}
}

// spoil puts something wrong into a type: what has no kind or no normal form, or needs more arguments.
func spoil(m *problem.Maker, t api.Type) api.Type {
	if len(t.Args) == 0 || m.Choose(4) == 0 {
		return read([]string{"Missing", "Spin", "Grow Int", "Elem", "Plus 'Z", "List", "Int", "m0", "Eq Int", "List List", "Int ~ Bool", "forall a. a", "Elem Int"}[m.Choose(13)])
	}
	made := api.Type{Op: t.Op, Args: slices.Clone(t.Args)}
	i := m.Choose(2)
	made.Args[i] = spoil(m, t.Args[i])
	return made
}

// TestOracle holds all that depends on an environment against the oracle.
func TestOracle(t *testing.T) {
	errors := map[api.Errno]int{}
	count := map[string]int{}
	each(1, 16000, func(m *problem.Maker, imp int, a, b api.Type) {
		if m.Choose(10) == 0 {
			a = spoil(m, a)
		}
		if imp >= 0 && m.Choose(20) == 0 {
			m.Problem.Imps[imp].Given = append(m.Problem.Imps[imp].Given, problem.Equation(spoil(m, a), b))
		}
		p := m.Problem
		want := map[string]string{}
		keep := func(call string, do func(o *oracle) string) {
			o := newOracle(m.Env, p, imp)
			s, e := leave.Tried(func() string { return do(o) })
			want[call] = s + strconv.Itoa(int(e))
		}
		keep("Rules", func(o *oracle) string {
			l, impossible := o.rules()
			count["rules"] += len(l)
			return problem.Rules(l) + map[bool]string{true: "impossible"}[impossible]
		})
		keep("Normal", func(o *oracle) string { l, _ := o.rules(); return show(o.normal(a, l)) })
		keep("Holds", func(o *oracle) string {
			l, _ := o.rules()
			return map[bool]string{true: "holds"}[types.Same(o.normal(a, l), o.normal(b, l))]
		})
		keep("Unify", func(o *oracle) string {
			o.unify(a, b)
			count["left"] += len(o.left)
			return problem.Show(o.p) + problem.Wants(o.left)
		})
		got := map[string]string{}
		l, impossible, e := Rules(m.Env, p, imp)
		got["Rules"] = problem.Rules(l) + map[bool]string{true: "impossible"}[impossible] + strconv.Itoa(int(e))
		x, e := Normal(m.Env, p, imp, a)
		got["Normal"] = shown(x, e)
		ok, e := Holds(m.Env, p, imp, a, b)
		got["Holds"] = map[bool]string{true: "holds"}[ok] + strconv.Itoa(int(e))
		q, left, e := Unify(m.Env, p, imp, a, b)
		got["Unify"] = problem.Show(q) + problem.Wants(left) + strconv.Itoa(int(e))
		errors[e]++
		if e == api.OK && len(left) == 0 && problem.Changes(p, q) != "" {
			count["solved"]++
		}
		if impossible {
			count["impossible"]++
		}
		for call, s := range want {
			if got[call] != s {
				t.Fatal(call, problem.Show(p), imp, show(a), "and", show(b), "\n", got[call], "\nwanted:", s)
			}
		}
	})
	for _, e := range []api.Errno{api.ErrFull, api.ErrFuel, api.ErrName, api.ErrForm, api.ErrKind} {
		if errors[e] < 10 {
			t.Error("too few with this error:", e, errors)
		}
	}
	if count["rules"] < 1500 || count["left"] < 4000 || count["solved"] < 1200 || count["impossible"] < 600 {
		t.Error("too much alike:", count)
	}
}

func shown(t api.Type, e api.Errno) string {
	if e != api.OK {
		return strconv.Itoa(int(e))
	}
	return show(t) + strconv.Itoa(int(e))
}

// TestNewMemory: arguments stay as they are, and results share no memory with them, or with each other.
func TestNewMemory(t *testing.T) {
	each(2, 1500, func(m *problem.Maker, imp int, a, b api.Type) {
		p := m.Problem
		before, first, second := anew.Problem(&p), anew.Type(&a), anew.Type(&b)
		q, left, _ := Unify(m.Env, p, imp, a, b)
		rules, _, _ := Rules(m.Env, p, imp)
		normal, _ := Normal(m.Env, p, imp, a)
		found := problem.Show(q) + problem.Wants(left) + problem.Rules(rules) + show(normal)
		problem.Spoil(q, left)
		text.Spoil(normal)
		for _, r := range rules {
			text.Spoil(r.Left)
			text.Spoil(r.Right)
		}
		if problem.Show(p) != problem.Show(before) || !types.Same(a, first) || !types.Same(b, second) {
			t.Fatal("changed:", problem.Show(before))
		}
		q, left, _ = Unify(m.Env, p, imp, a, b)
		rules, _, _ = Rules(m.Env, p, imp)
		normal, _ = Normal(m.Env, p, imp, a)
		if again := problem.Show(q) + problem.Wants(left) + problem.Rules(rules) + show(normal); again != found {
			t.Fatal("another result:", again, found)
		}
	})
}

// garbage makes anything, nested as one likes.
func garbage(m *problem.Maker, depth int) api.Type {
	if m.Choose(2) > 0 {
		return m.Type("Type", depth)
	}
	x := api.Type{Op: m.Choose(10), N: m.Choose(4) - 1, S: []string{"", "Elem", "'Z", "~"}[m.Choose(4)]}
	for range m.Choose(4) {
		if depth > 0 {
			x.Args = append(x.Args, garbage(m, depth-1))
		}
	}
	return x
}

// TestGarbage: there is a result for all arguments, also for environments that Build never returns, and nothing beside an error.
func TestGarbage(t *testing.T) {
	count := map[api.Errno]int{}
	each(3, 3000, func(m *problem.Maker, imp int, a, b api.Type) {
		p := anew.Problem(&m.Problem)
		env := anew.Env(&m.Env)
		switch m.Choose(4) {
		case 0:
			a = garbage(m, 2)
		case 1:
			p.Metas[m.Choose(len(p.Metas))] = api.Meta{Kind: garbage(m, 2), Level: m.Choose(3) - 1, Solved: m.Choose(2) == 0, Value: garbage(m, 2)}
			p.Imps = append(p.Imps, api.Imp{Parent: m.Choose(9) - 3, Given: list(garbage(m, 2))})
		case 2:
			for i := range env.Families {
				f := &env.Families[i]
				f.Arity += m.Choose(3) - 1
				for j := range f.Eqs {
					f.Eqs[j].Right = garbage(m, 2)
				}
				f.Kind = garbage(m, 1)
			}
		}
		imp += m.Choose(3) - 1
		for _, e := range answers(t, env, p, imp, m.Choose(9)-2, a, b) {
			count[e]++
		}
	})
	for _, e := range []api.Errno{api.OK, api.ErrArg, api.ErrNone} {
		if count[e] < 100 {
			t.Error("too few with this error:", e, count)
		}
	}
}
