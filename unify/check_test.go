package unify

import (
	"reflect"
	"slices"
	"strings"
	"testing"

	"damask/api"
	"damask/internal/problem"
	"damask/internal/text"
)

// answers calls every function of the package, and returns the errors. A result beside an error must be zero.
func answers(t *testing.T, env api.Env, p api.Problem, imp, meta int, a, b api.Type) map[string]api.Errno {
	t.Helper()
	errors := map[string]api.Errno{"Check": Check(p)}
	add := func(call string, e api.Errno, results ...any) {
		errors[call] = e
		for _, r := range results {
			if v := reflect.ValueOf(r); e != api.OK && !v.IsZero() && (v.Kind() != reflect.Slice || v.Len() > 0) {
				t.Errorf("%s: %v beside the error %d", call, r, e)
			}
		}
	}
	n, e := Level(p, imp)
	add("Level", e, n)
	ok, e := Touchable(p, imp, meta)
	add("Touchable", e, ok)
	rules, ok, e := Rules(env, p, imp)
	add("Rules", e, rules, ok)
	normal, e := Normal(env, p, imp, a)
	add("Normal", e, normal)
	q, left, e := Unify(env, p, imp, a, b)
	add("Unify", e, q, left)
	ok, e = Holds(env, p, imp, a, b)
	add("Holds", e, ok)
	return errors
}

// improper are types that are none of a problem with one metavariable and one rigid variable.
func improper() []api.Type {
	return []api.Type{
		{}, {Op: api.YName, S: "a"}, {Op: 9}, con(""), con(strings.Repeat("A", 41)), {Op: api.YApp}, {Op: api.YAll, S: "a", Args: list(con("Type"), con("A"))}, {Op: api.YCon, S: "A", N: 1}, text.Deep(41), text.Wide(9), text.Deep(1 << 16),
		bound(0), bound(-1), all(con("Type"), bound(1)), all(bound(0), con("A")), meta(1), meta(-1), rigid(1), rigid(9999), app(con("A"), meta(1)), imp(rigid(1), con("A")), all(con("Type"), app(bound(0), rigid(1))),
	}
}

// TestParts: each part of a problem must be formed, for all functions.
func TestParts(t *testing.T) {
	star := con("Type")
	metas := func(n int) api.Problem { return api.Problem{Metas: slices.Repeat([]api.Meta{{Kind: star}}, n)} }
	rigids := func(n int) api.Problem {
		return api.Problem{Rigids: slices.Repeat([]api.Rigid{{Kind: star}}, n)}
	}
	imps := func(parents ...int) api.Problem {
		var p api.Problem
		for _, n := range parents {
			p.Imps = append(p.Imps, api.Imp{Parent: n})
		}
		return p
	}
	wants := func(n, imp int) api.Problem {
		return api.Problem{Imps: imps(-1, -1).Imps, Wants: slices.Repeat([]api.Want{{Imp: imp, Type: star}}, n)}
	}
	level := func(n, r int) api.Problem {
		return api.Problem{Metas: []api.Meta{{Kind: star, Level: n}}, Rigids: []api.Rigid{{Kind: star, Level: r}}}
	}
	right := []api.Problem{
		{}, metas(400), rigids(400), imps(slices.Repeat([]int{-1}, 400)...), imps(-1, 0, 1, 0, -1), wants(400, -1), wants(1, 1), level(0, 400), level(400, 0),
		problem.Read("meta Type = List m1; meta Type = Pair m2 m2; meta Type;"), problem.Read("meta m1; meta m0; meta m2;"), problem.Read("meta forall a. a -> r0; rigid m0; imp -1: m0, r0, Int, forall a. Eq a; want 0: forall a. a ~ m0;"),
		{Metas: []api.Meta{{Kind: star, Value: api.Type{Op: 99}}, {Kind: star, Value: meta(1)}, {Kind: star, Value: text.Deep(99)}}},
	}
	wrong := []api.Problem{
		metas(401), rigids(401), imps(slices.Repeat([]int{-1}, 401)...), imps(0), imps(-1, 1), imps(-1, -2), imps(-1, 5), wants(401, -1), wants(1, -2), wants(1, 2), level(-1, 0), level(401, 0), level(0, -1), level(0, 401),
		problem.Read("meta Type = m0;"), problem.Read("meta Type = List m1; meta Type = Pair m2 Int; meta Type = m0 -> Int;"), problem.Read("meta Type; meta Type = List m1;"), problem.Read("meta Type = forall a. m1; meta Type = forall a. m0;"),
	}
	for _, x := range improper() {
		for _, part := range []api.Problem{
			{Metas: []api.Meta{{Kind: x}}}, {Metas: []api.Meta{{Kind: star, Solved: true, Value: x}}}, {Rigids: []api.Rigid{{Kind: x}}}, {Imps: []api.Imp{{Parent: -1}, {Parent: 0, Given: list(star, x)}}}, {Wants: []api.Want{{Imp: -1, Type: star}, {Imp: -1, Type: x}}},
		} {
			if part.Metas == nil {
				part.Metas = []api.Meta{{Kind: star}}
			}
			if part.Rigids == nil {
				part.Rigids = []api.Rigid{{Kind: star}}
			}
			wrong = append(wrong, part)
		}
	}
	env := problem.Env(problem.World)
	for i, p := range right {
		for call, e := range answers(t, env, p, -1, 0, star, star) {
			if e != api.OK && (call != "Touchable" || e != api.ErrNone || len(p.Metas) > 0) {
				t.Error("right:", i, call, e)
			}
		}
	}
	for i, p := range wrong {
		for call, e := range answers(t, env, p, -1, 9999, star, star) {
			if e != api.ErrArg {
				t.Error("wrong:", i, call, e)
			}
		}
	}
}

// TestAsked: an implication that there is, and types of the problem.
func TestAsked(t *testing.T) {
	env := problem.Env(problem.World)
	p := problem.Read("meta Type @1; rigid Type @1; imp -1: ; imp 0: ;")
	star := con("Type")
	for n, want := range map[int]api.Errno{-2: api.ErrArg, -1: api.OK, 0: api.OK, 1: api.OK, 2: api.ErrArg, 1 << 40: api.ErrArg} {
		for call, e := range answers(t, env, p, n, 0, star, star) {
			if e != want && call != "Check" {
				t.Error(call, n, e)
			}
		}
	}
	for i, x := range improper() {
		first, second := answers(t, env, p, 0, 0, x, star), answers(t, env, p, 0, 0, star, x)
		for _, e := range []api.Errno{first["Normal"], first["Unify"], first["Holds"], second["Unify"], second["Holds"]} {
			if e != api.ErrArg {
				t.Error(i, e)
			}
		}
	}
	for n, want := range map[int]api.Errno{-1: api.ErrNone, 0: api.OK, 1: api.ErrNone} {
		if _, e := Touchable(p, 1, n); e != want {
			t.Error(n, e)
		}
		if _, e := Touchable(p, 2, n); e != api.ErrArg {
			t.Error(n, e)
		}
	}
}

func TestLevel(t *testing.T) {
	p := problem.Read("imp -1: ; imp 0: ; imp 1: ; imp 0: ; imp -1: ; imp 4: ;")
	for imp, want := range map[int]int{-1: 0, 0: 1, 1: 2, 2: 3, 3: 2, 4: 1, 5: 2} {
		if n, e := Level(p, imp); n != want || e != api.OK {
			t.Error(imp, n, e)
		}
	}
}

// TestTouchable: only an equation within the level of a metavariable keeps it from being solved, wherever it is in the chain.
func TestTouchable(t *testing.T) {
	p := problem.Read(`
		meta Type @0; meta Type @1; meta Type @2; meta Type @3; meta Type @4; meta Type @0 = Int;
		imp -1: Eq m0; imp 0: Eq m0, m0 ~ m0; imp 1: ; imp 0: ; imp -1: Int ~ Int, Eq m0; imp 4: Empty, Int ~ Bool; imp -1: forall a. a ~ a, (Int ~ Bool) Int, (Int ~ Bool) => Eq m0, List (Int ~ Bool);`)
	for imp, want := range map[int]string{-1: "yyyyyn", 0: "yyyyyn", 1: "nnyyyn", 2: "nnyyyn", 3: "yyyyyn", 4: "nyyyyn", 5: "nnyyyn", 6: "yyyyyn"} {
		got := ""
		for n := range p.Metas {
			ok, e := Touchable(p, imp, n)
			if e != api.OK {
				t.Error(imp, n, e)
			}
			got += map[bool]string{true: "y", false: "n"}[ok]
		}
		if got != want {
			t.Error(imp, got)
		}
	}
}
