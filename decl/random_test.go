package decl

import (
	"math/rand"
	"reflect"
	"slices"
	"testing"

	"damask/api"
	"damask/family"
	"damask/kind"
	"damask/leave"
	"damask/types"
)

// each grows programs, and builds them.
func each(t *testing.T, seed int64, programs int, test func(r *rand.Rand, declarations []string, p api.Program, env api.Env)) map[api.Errno]int {
	t.Helper()
	count := map[api.Errno]int{}
	for i := range int64(programs) {
		w, declarations := grown(seed*1000+i, count)
		p, ok := programOf(declarations)
		env, _, _, e := Build(p)
		if !ok || e != api.OK {
			t.Fatal(declarations, e)
		}
		test(w.Rand, declarations, p, env)
	}
	return count
}

// TestKinds: the types of all constructors, methods and signatures have the kind Type, and what else an environment has has the kind that it must have.
func TestKinds(t *testing.T) {
	refined, further, equations, instances := 0, 0, 0, 0
	count := each(t, 1, 150, func(_ *rand.Rand, declarations []string, _ api.Program, env api.Env) {
		has := func(ctx []api.Type, x api.Type, k string) {
			t.Helper()
			if len(ctx) > api.MaxDepth {
				return
			}
			if e := kind.Check(env, nil, nil, ctx, x, named(k)); e != api.OK {
				t.Fatal(declarations, show(x), e)
			}
		}
		for _, c := range env.Cons {
			typ, e := ConType(env, c.Name)
			if e != api.OK {
				t.Fatal(c, e)
			}
			has(nil, typ, "Type")
			if len(c.Eqs) > 0 {
				refined++
			}
			if len(c.Exis) > 0 {
				further++
			}
		}
		for _, s := range env.Sigs {
			has(nil, s.Type, "Type")
		}
		for _, c := range env.Classes {
			for _, x := range c.Supers {
				has(c.Vars, x, "Constraint")
			}
			for _, s := range c.Sigs {
				has(c.Vars, s.Type, "Type")
			}
		}
		for _, in := range env.Instances {
			for _, x := range append(slices.Clone(in.Context), applied(named(in.Class), in.Args...)) {
				has(in.Vars, x, "Constraint")
			}
			instances++
		}
		for _, f := range env.Families {
			for _, a := range f.Eqs {
				left := applied(named(f.Name), a.Left...)
				k, e := kind.Kind(env, nil, nil, a.Vars, left)
				if e != api.OK || kind.Check(env, nil, nil, a.Vars, a.Right, k) != api.OK {
					t.Fatal(f, e)
				}
				equations++
			}
		}
		if _, e := family.Plain(env, named("Int")); e != api.OK {
			t.Fatal("families are not formed:", declarations)
		}
	})
	if refined < 50 || further < 50 || equations < 50 || instances < 100 || count[api.ErrForm] < 50 || count[api.ErrApart] < 20 {
		t.Error("too much alike:", refined, further, equations, instances, count)
	}
}

// TestConstructorsAgain: with its results put for the Univ variables, a constructor is what was declared.
func TestConstructorsAgain(t *testing.T) {
	done := 0
	each(t, 2, 150, func(_ *rand.Rand, _ []string, p api.Program, env api.Env) {
		for _, d := range p.Decls {
			for _, c := range d.Cons {
				made, _ := Con(env, c.Name)
				kinds, constraints, rest := split(nameless(&c.Type, inContext()))
				args, rest, _ := types.Arguments(rest)
				_, results, _ := types.Spine(rest)
				var open []api.Type // the variables of the con
				for i := range kinds {
					open = append(open, api.Type{Op: api.YRigid, N: i})
				}
				values := make([]api.Type, len(results))
				used := map[int]bool{}
				var equations []api.Eq
				for i, r := range results {
					values[i] = put(r, open)
					if r := values[i]; r.Op != api.YRigid || used[r.N] {
						equations = append(equations, api.Eq{Left: values[i], Right: values[i]})
					} else {
						used[r.N] = true
					}
				}
				for i := range kinds {
					if !used[i] {
						values = append(values, open[i])
					}
				}
				var given []api.Type
				for _, x := range constraints {
					if e, ok := sides(put(x, open)); ok {
						equations = append(equations, e)
					} else {
						given = append(given, put(x, open))
					}
				}
				if len(made.Univ)+len(made.Exis) != len(values) || len(made.Eqs) != len(equations) || len(made.Given) != len(given) || len(made.Args) != len(args) {
					t.Fatal(showCon(made))
				}
				for i, e := range made.Eqs {
					if !types.Same(put(e.Left, values), equations[i].Left) || !types.Same(put(e.Right, values), equations[i].Right) {
						t.Fatal(showCon(made), i)
					}
				}
				for i, x := range made.Given {
					if !types.Same(put(x, values), given[i]) {
						t.Fatal(showCon(made), i)
					}
				}
				for i, x := range made.Args {
					if !types.Same(put(x, values), put(args[i], open)) {
						t.Fatal(showCon(made), i)
					}
				}
				done++
			}
		}
	})
	if done < 400 {
		t.Error("too few constructors:", done)
	}
}

// values makes any types: of a class's arguments the kinds do not matter for what matches.
func values(r *rand.Rand, n int) []api.Type {
	var l []api.Type
	for range n {
		t := []api.Type{named("Int"), named("Bool"), named("'M.Z"), {Op: api.YRigid}, {Op: api.YMeta}, variable(0), applied(named("IO"), variable(1)), foralls([]api.Type{named("Type")}, variable(0))}[r.Intn(8)]
		if r.Intn(3) == 0 {
			t = applied(named("IO"), t)
		}
		l = append(l, t)
	}
	return l
}

// TestOneInstance: at most one instance matches any arguments, and one of those that are made for it does.
func TestOneInstance(t *testing.T) {
	several := 0
	each(t, 3, 200, func(r *rand.Rand, declarations []string, _ api.Program, env api.Env) {
		for n, in := range env.Instances {
			for range 6 {
				var args []api.Type
				v := values(r, len(in.Vars))
				for _, a := range in.Args {
					args = append(args, put(a, v))
				}
				l, e := Instances(env, in.Class, args)
				if e != api.OK || !slices.Equal(l, []int{n}) {
					t.Fatal(declarations, showAll(args), l, n, e)
				}
				l, e = Instances(env, in.Class, values(r, len(args)))
				if e != api.OK || len(l) > 1 {
					t.Fatal(declarations, l, e)
				}
			}
			if n > 0 && env.Instances[n-1].Class == in.Class {
				several++
			}
		}
	})
	if several < 30 {
		t.Error("too few instances of one class:", several)
	}
}

// TestOtherOrder: declarations in another order give the same environment but for orders, if there is no error.
func TestOtherOrder(t *testing.T) {
	done := 0
	each(t, 4, 150, func(r *rand.Rand, declarations []string, _ api.Program, env api.Env) {
		want := sorted(lines(env))
		for range 3 {
			r.Shuffle(len(declarations), reflect.Swapper(declarations))
			p, ok := programOf(declarations)
			other, _, _, e := Build(p)
			if !ok || e != api.OK {
				continue
			}
			if !slices.Equal(sorted(lines(other)), want) {
				t.Fatal(declarations, lines(other), want)
			}
			done++
		}
	})
	if done < 150 {
		t.Error("too few orders:", done)
	}
}

// TestNewMemory: programs and environments stay as they are, and no result shares memory with them or with itself.
func TestNewMemory(t *testing.T) {
	same := func(s string) string { return s }
	each(t, 5, 40, func(r *rand.Rand, _ []string, p api.Program, env api.Env) {
		before, known := changed(p, same), changed(env, same)
		once, again, _, e := Build(p)
		if e != api.OK || !reflect.DeepEqual(once, env) {
			t.Fatal("another result:", e)
		}
		spoil(reflect.ValueOf(&once).Elem())
		spoil(reflect.ValueOf(&again).Elem())
		for _, c := range env.Cons {
			con, _ := Con(env, c.Name)
			typ, _ := ConType(env, c.Name)
			spoil(reflect.ValueOf(&con).Elem())
			spoil(reflect.ValueOf(&typ).Elem())
		}
		for _, c := range env.Classes {
			x := applied(named(c.Name), values(r, len(c.Vars))...)
			text := show(x)
			l, _ := Supers(env, x)
			spoil(reflect.ValueOf(&l).Elem())
			if show(x) != text {
				t.Fatal("changed:", text)
			}
		}
		if !reflect.DeepEqual(before, p) || !reflect.DeepEqual(known, env) {
			t.Fatal("changed")
		}
	})
	for range 2 {
		env := Builtin()
		spoil(reflect.ValueOf(&env).Elem())
	}
}

// own is added to the variables of the second one of two heads.
const own = 10

func randomHead(r *rand.Rand, n int) []api.Type {
	var term func(depth int) api.Type
	term = func(depth int) api.Type {
		switch {
		case depth > 0 && r.Intn(2) == 0:
			return applied(term(depth-1), term(depth-1))
		case r.Intn(3) > 0:
			return variable(r.Intn(3))
		}
		return named([]string{"A", "B"}[r.Intn(2)])
	}
	var l []api.Type
	for range n {
		l = append(l, term(r.Intn(4)))
	}
	return l
}

// robinson unifies by putting one type for one variable after the other.
func robinson(a, b []api.Type) (map[int]api.Type, bool) {
	became := map[int]api.Type{}
	var resolve func(t api.Type) api.Type
	resolve = func(t api.Type) api.Type {
		if next, found := became[t.N]; t.Op == api.YVar && found {
			return resolve(next)
		}
		made := t
		made.Args = nil
		for _, x := range t.Args {
			made.Args = append(made.Args, resolve(x))
		}
		return made
	}
	occurs := func(n int, t api.Type) bool {
		l, _ := types.Free(t)
		return slices.Contains(l, n)
	}
	var unify func(x, y api.Type) bool
	unify = func(x, y api.Type) bool {
		x, y = resolve(x), resolve(y)
		switch {
		case types.Same(x, y):
			return true
		case x.Op == api.YVar && !occurs(x.N, y):
			became[x.N] = y
			return true
		case y.Op == api.YVar && !occurs(y.N, x):
			became[y.N] = x
			return true
		case x.Op == api.YApp && y.Op == api.YApp:
			return unify(x.Args[0], y.Args[0]) && unify(x.Args[1], y.Args[1])
		}
		return false
	}
	for i := range a {
		if !unify(a[i], b[i]) {
			return nil, false
		}
	}
	full := map[int]api.Type{}
	for n := range became {
		full[n] = resolve(variable(n))
	}
	return full, true
}

// TestHeads holds the unification of heads against that of Robinson.
func TestHeads(t *testing.T) {
	r := rand.New(rand.NewSource(9))
	count := map[string]int{}
	class := api.Class{Deps: []api.ClassDep{{From: []int{0}, To: []int{1}}}}
	for range 30000 {
		first, second := randomHead(r, 3), randomHead(r, 3)
		var h heads
		apart := func(l []api.Type) bool {
			_, e := leave.Tried(func() bool {
				h.enter(&api.Instance{Vars: make([]api.Type, 3), Args: l}, &class)
				return true
			})
			return e == api.OK
		}
		apart(first)
		got := apart(second)
		var other []api.Type
		for _, x := range second {
			other = append(other, shifted(x, own))
		}
		_, all := robinson(first, other)
		became, from := robinson(first[:1], other[:1])
		determined := true
		if from {
			var sides []api.Type
			for _, x := range []api.Type{first[1], other[1]} {
				for n, value := range became {
					b, _ := types.Bind(openRigid(x, n), api.YRigid, []int{n})
					x, _ = types.Put(b, []api.Type{value})
				}
				sides = append(sides, x)
			}
			determined = types.Same(sides[0], sides[1])
		}
		if got != (!all && (!from || determined)) {
			t.Fatal(showAll(first), showAll(other), got, all, from, determined)
		}
		switch {
		case all:
			count["all"]++
		case from && determined:
			count["determined"]++
		case from:
			count["not determined"]++
		default:
			count["apart"]++
		}
	}
	for _, what := range []string{"all", "determined", "not determined", "apart"} {
		if count[what] < 150 {
			t.Error("too few:", what, count)
		}
	}
}

// openRigid makes a rigid variable of a free one.
func openRigid(t api.Type, n int) api.Type {
	if t.Op == api.YVar && t.N == n {
		return api.Type{Op: api.YRigid, N: n}
	}
	made := t
	made.Args = nil
	for _, a := range t.Args {
		made.Args = append(made.Args, openRigid(a, n))
	}
	return made
}
