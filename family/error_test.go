package family

import (
	"reflect"
	"slices"
	"strings"
	"testing"

	"damask/api"
	"damask/internal/text"
	"damask/types"
)

// answers calls every function of the package, with a type in each place where one can be, and returns the errors. A result beside an error must be zero.
func answers(t *testing.T, env api.Env, name string, n int, x api.Type, args []api.Type) map[string]api.Errno {
	t.Helper()
	errors := map[string]api.Errno{}
	add := func(call string, e api.Errno, results ...any) {
		errors[call] = e
		for _, r := range results {
			if v := reflect.ValueOf(r); e != api.OK && !v.IsZero() && (v.Kind() != reflect.Slice || v.Len() > 0) {
				t.Errorf("%s: %v beside the error %d", call, r, e)
			}
		}
	}
	normal, steps, e := Normal(env, x)
	add("Normal", e, normal, steps)
	stepped, at, e := Step(env, name, args)
	add("Step", e, stepped, at)
	matched, ok, e := Match(env, name, n, args)
	add("Match", e, matched, ok)
	apart, e := Apart(env, name, n, args)
	add("Apart", e, apart)
	clash, e := Clash(env, x, con("Int"))
	add("Clash", e, clash)
	clash, e = Clash(env, con("Int"), x)
	add("Clash turned round", e, clash)
	plain, e := Plain(env, x)
	add("Plain", e, plain)
	pairs, e := Overlaps(env, name)
	add("Overlaps", e, pairs)
	return errors
}

func TestImproper(t *testing.T) {
	env := text.Families(source)
	ok := reads("Int", "Bool")
	for i, x := range []api.Type{
		{}, {Op: api.YName, S: "a"}, {Op: 9}, con(""), con(strings.Repeat("A", 41)), bound(-1), bound(10000), meta(10000), rigid(-1),
		{Op: api.YApp}, {Op: api.YAll, S: "a", Args: ok}, {Op: api.YCon, S: "A", N: 1}, app(con("A"), con("")), app(con("Id"), api.Type{}), deep(41), wide(9), deep(1 << 16),
	} {
		for _, args := range [][]api.Type{{x, ok[0]}, {ok[0], x}, {x}, {ok[0], ok[0], x}} {
			for call, e := range answers(t, env, "Eq", 0, x, args) {
				if e != api.ErrArg && call != "Overlaps" {
					t.Error(call, i, e)
				}
			}
		}
		// what is asked for is not looked at before
		for _, call := range []string{"Step", "Match", "Apart"} {
			if e := answers(t, env, "Missing", 9, x, list(x))[call]; e != api.ErrArg {
				t.Error(call, i, e)
			}
		}
	}
}

// TestAsked: a family, then an equation, then the number of arguments; and there are at most 40 of these.
func TestAsked(t *testing.T) {
	env := text.Families(source)
	for _, row := range []struct {
		name  string
		n     int
		args  []api.Type
		step  api.Errno
		match api.Errno
	}{
		{"Missing", 0, nil, api.ErrNone, api.ErrNone}, {"Nat", 0, nil, api.ErrNone, api.ErrNone}, {"Shadow", 0, reads("Int"), api.ErrNone, api.ErrNone}, {"Int", 0, nil, api.ErrNone, api.ErrNone}, {"~", 0, nil, api.ErrNone, api.ErrNone}, {"'Z", 0, nil, api.ErrNone, api.ErrNone},
		{"Eq", 2, reads("Int", "Int"), api.OK, api.ErrNone}, {"Eq", -1, reads("Int", "Int"), api.OK, api.ErrNone}, {"Eq", 2, nil, api.ErrForm, api.ErrNone}, {"Stuck", 0, nil, api.ErrNone, api.ErrNone}, {"Stuck", 0, reads("Int"), api.ErrForm, api.ErrNone},
		{"Eq", 1, nil, api.ErrForm, api.ErrForm}, {"Eq", 1, reads("Int"), api.ErrForm, api.ErrForm}, {"Eq", 1, reads("Int", "Int", "Int"), api.ErrForm, api.ErrForm}, {"Eq", 1, slices.Repeat(reads("Int"), 40), api.ErrForm, api.ErrForm},
		{"Eq", 1, slices.Repeat(reads("Int"), 41), api.ErrArg, api.ErrArg}, {"Missing", 1, slices.Repeat(reads("Int"), 41), api.ErrArg, api.ErrArg}, {"Eq", 1, reads("Int", "Bool"), api.OK, api.OK},
	} {
		got := answers(t, env, row.name, row.n, con("Int"), row.args)
		if got["Step"] != row.step || got["Match"] != row.match || got["Apart"] != row.match {
			t.Error(row, got)
		}
	}
}

// TestFormed: an environment whose families are not formed is no argument of any function, whatever is asked for.
func TestFormed(t *testing.T) {
	star := con("Type")
	family := func(name string, arity int, l ...api.Axiom) api.Family {
		return api.Family{Name: name, Kind: star, Arity: arity, Eqs: l}
	}
	axiom := func(variables int, right api.Type, left ...api.Type) api.Axiom {
		return api.Axiom{Vars: slices.Repeat(list(star), variables), Left: left, Right: right}
	}
	id := func(t api.Type) api.Type { return app(con("Id"), t) }
	for i, f := range []api.Family{
		family("F", -1), family("F", 41), family("Int", 41), family("Data", -1), family("'Z", -1), family("F", 1, axiom(0, star)), family("F", 0, axiom(0, star, star)), family("F", 2, axiom(0, star, star)),
		family("F", 1, axiom(0, star, star), axiom(0, star, star, star)), family("Id", 1, axiom(0, star)),
		family("F", 1, axiom(0, star, api.Type{})), family("F", 1, axiom(0, star, deep(41))), family("F", 1, axiom(0, star, wide(9))), family("F", 2, axiom(0, star, star, con(""))),
		family("F", 1, axiom(0, star, all(star, star))), family("F", 1, axiom(0, star, imp(star, star))), family("F", 1, axiom(0, star, meta(0))), family("F", 1, axiom(0, star, rigid(0))), family("F", 1, axiom(0, star, app(star, rigid(0)))),
		family("F", 1, axiom(0, star, bound(0))), family("F", 1, axiom(2, star, app(star, bound(2)))), family("F", 1, axiom(1, star, id(star))), family("F", 1, axiom(1, star, app(star, con("None")))), family("F", 1, axiom(1, star, app(id(star), star))),
		family("F", 1, axiom(1, api.Type{}, bound(0))), family("F", 1, axiom(1, deep(41), bound(0))), family("F", 1, axiom(1, meta(0), bound(0))), family("F", 1, axiom(1, app(star, rigid(3)), bound(0))), family("F", 1, axiom(1, bound(1), bound(0))), family("F", 1, axiom(1, all(bound(1), star), bound(0))), family("F", 1, axiom(1, all(star, bound(2)), bound(0))),
		family("F", 1, axiom(1, con("Id"), bound(0))), family("F", 1, axiom(1, app(star, con("Id")), bound(0))), family("F", 1, axiom(1, id(con("Id")), bound(0))), family("F", 1, axiom(1, all(con("F"), star), bound(0))), family("F", 2, axiom(1, app(con("F"), star), bound(0), star)), family("Int", 1, axiom(1, con("Id"), bound(0))),
	} {
		// the family that is not formed comes last, and is one that nobody asks for
		env := api.Env{Data: []api.DataType{{Name: "Data"}}, Families: []api.Family{family("None", 0), family("Id", 1, axiom(1, bound(0), bound(0))), f}}
		for _, name := range []string{"Id", "None", "Missing"} {
			for call, e := range answers(t, env, name, 5, con("Int"), nil) {
				if e != api.ErrArg {
					t.Error(call, i, name, e)
				}
			}
		}
	}
	// an environment that has all that is allowed
	env := api.Env{Data: []api.DataType{{Name: "Data"}}, Families: []api.Family{
		family("None", 0), family("Forty", 40, axiom(1, bound(0), slices.Repeat(list(bound(0)), 40)...)), family("None", 3, axiom(0, star, star, star, star)), family("Data", 2),
		family("F", 1, axiom(1, all(bound(0), imp(bound(1), app(app(con("F"), bound(0)), con("Data")))), bound(0)), axiom(0, con("None"), con("F")), axiom(0, app(con("None"), star), app(app(con("Data"), star), star)), axiom(3, star, app(bound(2), bound(0)))),
		{Name: "", Kind: api.Type{}, Arity: 0}, {Name: strings.Repeat("A", 99), Arity: 0, Eqs: []api.Axiom{{Vars: list(api.Type{}), Right: star}}},
	}}
	for call, e := range answers(t, env, "F", 0, con("Int"), list(star)) {
		if e != api.OK {
			t.Error(call, e)
		}
	}
	if got, n, e := Normal(env, app(con("Forty"), star)); n != 0 || e != api.OK {
		t.Error(show(got), n, e)
	}
}

// TestFirst: a family is found as a constant is: what is built in comes first, then promoted constructors, then data types, then the first family of a name; classes come behind.
func TestFirst(t *testing.T) {
	identity := func(name string) api.Family {
		return api.Family{Name: name, Arity: 1, Eqs: []api.Axiom{{Vars: list(con("Type")), Left: list(bound(0)), Right: bound(0)}}}
	}
	env := api.Env{Data: []api.DataType{{Name: "D"}}, Classes: []api.Class{{Name: "F"}}, Families: []api.Family{
		identity("F"), {Name: "F", Arity: 2}, {Name: "G", Arity: 2}, identity("G"), identity("D"), identity("'Z"), identity("'"), identity("f"),
		identity("Type"), identity("Constraint"), identity("->"), identity("~"), identity("Int"), identity("Bool"), identity("Unit"), identity("IO"), identity("STM"), identity("TVar"), identity("'True"),
	}}
	for _, name := range []string{"D", "'Z", "'", "Type", "Constraint", "->", "~", "Int", "Bool", "Unit", "IO", "STM", "TVar", "'True", "G"} {
		x := app(con(name), con("A"))
		if plain, e := Plain(env, x); !plain || e != api.OK {
			t.Error(name, plain, e)
		}
		if got, n, e := Normal(env, x); n != 0 || e != api.OK || !types.Same(got, x) {
			t.Error(name, show(got), n, e)
		}
		want := map[bool]api.Errno{true: api.ErrForm, false: api.ErrNone}[name == "G"]
		if _, _, e := Step(env, name, list(con("A"))); e != want {
			t.Error(name, e)
		}
		if clash, e := Clash(env, con(name), con("A")); clash == (name == "G") || e != api.OK {
			t.Error(name, clash, e)
		}
	}
	for _, name := range []string{"F", "f"} {
		if got, n, e := Normal(env, app(con(name), con("A"))); n != 1 || e != api.OK || show(got) != "A" {
			t.Error(name, show(got), n, e)
		}
	}
}
