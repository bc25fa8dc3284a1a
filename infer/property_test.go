package infer

import (
	"math/rand"
	"slices"
	"strings"
	"testing"

	"damask/anew"
	"damask/api"
	"damask/decl"
	"damask/free"
	"damask/kind"
	"damask/scope"
	"damask/syntax"
	"damask/types"
)

const rounds = 1500

// TestOracle: definitions without annotations have the types, or the errors, that another way of inference finds.
func TestOracle(t *testing.T) {
	right, wrong := 0, 0
	for seed := range int64(rounds) {
		source := newMaker(seed, 250).module(4)
		p, env := built(t, source)
		sigs, at, e := Infer(p, env)
		o := &oracle{env: env, bound: map[string]general{}}
		found, failed := o.program(p)
		if failed >= 0 {
			wrong++
			if e != api.ErrType || at != failed || sigs != nil {
				t.Fatal(source, e, at, failed)
			}
			continue
		}
		right++
		if e != api.OK || len(sigs) != len(found) || at != 0 {
			t.Fatal(source, e, at)
		}
		for _, s := range sigs {
			if !types.Same(s.Type, found[s.Name]) {
				t.Fatal(source, s.Name, show(s.Type), show(found[s.Name]))
			}
		}
	}
	if right < rounds/2 || wrong < rounds/10 {
		t.Error("too few:", right, wrong)
	}
}

// sources are those of the tables, and random ones.
func sources() []string {
	var l []string
	for _, s := range corpus() {
		l = append(l, world+s)
	}
	for seed := range int64(rounds / 5) {
		l = append(l, newMaker(-1-seed, 400).module(4))
	}
	return l
}

// TestKindsOfTypes: what is inferred has the kind Type, and no names (P11.3).
func TestKindsOfTypes(t *testing.T) {
	for _, s := range sources() {
		p, env := built(t, s)
		sigs, _, e := Infer(p, env)
		if e != api.OK {
			continue
		}
		for _, s := range sigs {
			if e := kind.Check(env, nil, nil, nil, s.Type, star()); e != api.OK {
				t.Error(s.Name, show(s.Type), e)
			}
		}
		var names []string
		for _, d := range p.Decls {
			if d.Op == api.DBind {
				names = append(names, d.Name)
			}
		}
		if !slices.EqualFunc(sigs, names, func(s api.Sig, name string) bool { return s.Name == name }) {
			t.Error("other names:", names)
		}
	}
}

// isSimple reports whether a type has foralls, and implications, at its beginning alone.
func isSimple(t api.Type) bool {
	for t.Op == api.YAll {
		t = t.Args[1]
	}
	return !strings.Contains(show(t), "forall") && !strings.Contains(show(t), "=>")
}

// signed adds the types of definitions without a DSig to a program and its environment.
func signed(p api.Program, env api.Env, sigs []api.Sig) (api.Program, api.Env) {
	p, env = anew.Program(&p), anew.Env(&env)
	for _, s := range sigs {
		if slices.ContainsFunc(env.Sigs, func(known api.Sig) bool { return known.Name == s.Name }) {
			continue
		}
		p.Decls = append(p.Decls, api.Decl{Op: api.DSig, Name: s.Name, Type: withNames(s.Type)})
		env.Sigs = append(env.Sigs, s)
	}
	return p, env
}

// withNames gives names to the foralls that a type begins with.
func withNames(t api.Type) api.Type {
	if t.Op != api.YAll {
		return t
	}
	return api.Type{Op: t.Op, S: "a", Args: []api.Type{t.Args[0], withNames(t.Args[1])}}
}

func sameSigs(a, b []api.Sig) bool {
	return slices.EqualFunc(a, b, func(a, b api.Sig) bool { return a.Name == b.Name && types.Same(a.Type, b.Type) })
}

// TestSigned: the types that were inferred can be written (P11.4).
func TestSigned(t *testing.T) {
	right := 0
	for _, s := range sources() {
		p, env := built(t, s)
		sigs, _, e := Infer(p, env)
		if e != api.OK || slices.ContainsFunc(sigs, func(s api.Sig) bool { return !isSimple(s.Type) }) {
			continue
		}
		right++
		q, env := signed(p, env, sigs)
		again, at, e := Infer(q, env)
		if e != api.OK || !sameSigs(sigs, again) {
			t.Error(s, e, at)
		}
		groups, e := Groups(q)
		if e != api.OK || slices.ContainsFunc(groups, func(g []int) bool { return len(g) != 1 }) {
			t.Error(s, groups, e)
		}
	}
	if right < rounds/10 {
		t.Error("too few:", right)
	}
}

// renamed gives all local variables other names.
func renamed(p api.Program, rename func(string) string) api.Program {
	p = anew.Program(&p)
	local := func(s *string) {
		if _, built := scope.Builtin(); !strings.Contains(*s, ".") && !slices.Contains(built, *s) {
			*s = rename(*s)
		}
	}
	var pats func(l []api.Pat)
	var exprs func(l []api.Expr)
	var decls func(l []api.Decl)
	pats = func(l []api.Pat) {
		for i := range l {
			if l[i].Op == api.PVar || l[i].Op == api.PAs {
				local(&l[i].S)
			}
			pats(l[i].Args)
		}
	}
	alts := func(l []api.Alt) {
		for i := range l {
			pats(l[i].Pats)
			decls(l[i].Where)
			for j := range l[i].Rhs {
				exprs(l[i].Rhs[j].If)
				then := []api.Expr{l[i].Rhs[j].Then}
				exprs(then)
				l[i].Rhs[j].Then = then[0]
			}
		}
	}
	exprs = func(l []api.Expr) {
		for i := range l {
			if l[i].Op == api.XVar {
				local(&l[i].S)
			}
			pats(l[i].Pats)
			exprs(l[i].Args)
			alts(l[i].Alts)
			decls(l[i].Decls)
		}
	}
	decls = func(l []api.Decl) {
		for i := range l {
			if l[i].Op == api.DBind || l[i].Op == api.DSig {
				local(&l[i].Name)
			}
			alts(l[i].Alts)
			decls(l[i].Decls)
		}
	}
	decls(p.Decls)
	return p
}

// TestRenamed: names of local variables do not matter, whatever they are (P11.5).
func TestRenamed(t *testing.T) {
	for _, s := range sources() {
		p, env := built(t, s)
		sigs, at, e := Infer(p, env)
		for _, prefix := range []string{"", "(", "M.f.", " ", "'True", "\x00"} {
			q := renamed(p, func(name string) string { return prefix + strings.Repeat("x", 20) + name })
			again, at2, e2 := Infer(q, env)
			if at != at2 || e != e2 || !sameSigs(sigs, again) {
				t.Fatal(s, e, e2)
			}
			for n := range p.Groups {
				a, b, e := Problem(p, env, sigs, n)
				a2, b2, e2 := Problem(q, env, sigs, n)
				if e != e2 || showProblem(a) != showProblem(a2) || showEach(b) != showEach(b2) {
					t.Fatal(s, n)
				}
			}
		}
	}
}

// shuffled puts definitions, signatures and instances in another order, behind what they could need, and local declarations likewise.
func shuffled(r *rand.Rand, m api.Module) api.Module {
	shuffle := func(l []api.Decl) { r.Shuffle(len(l), func(i, j int) { l[i], l[j] = l[j], l[i] }) }
	var before, behind []api.Decl
	for _, d := range anew.Decls(m.Decls) {
		if d.Op == api.DSig || d.Op == api.DBind || d.Op == api.DInst {
			behind = append(behind, d)
		} else {
			before = append(before, d)
		}
	}
	shuffle(behind)
	var exprs func(l []api.Expr)
	alts := func(l []api.Alt) {
		for i := range l {
			shuffle(l[i].Where)
			for j := range l[i].Rhs {
				exprs([]api.Expr{l[i].Rhs[j].Then})
			}
		}
	}
	exprs = func(l []api.Expr) {
		for i := range l {
			shuffle(l[i].Decls)
			exprs(l[i].Args)
			alts(l[i].Alts)
		}
	}
	for i := range behind {
		alts(behind[i].Alts)
	}
	m.Decls = append(before, behind...)
	return m
}

// TestShuffled: the order of declarations does not matter where the groups do not fix it (P11.5).
func TestShuffled(t *testing.T) {
	r := rand.New(rand.NewSource(1))
	byName := func(a, b api.Sig) int { return strings.Compare(a.Name, b.Name) }
	for _, s := range sources() {
		l, _, _ := syntax.Modules("module M { " + s + " }")
		p, env := built(t, s)
		sigs, _, e := Infer(p, env)
		slices.SortFunc(sigs, byName)
		for range 3 {
			q, e2 := scope.Resolve([]api.Module{shuffled(r, l[0])})
			if e2 != api.OK {
				t.Fatal(s, e2)
			}
			env, q, _, e2 := decl.Build(q)
			if e2 != api.OK {
				t.Fatal(s, e2)
			}
			again, _, e2 := Infer(q, env)
			slices.SortFunc(again, byName)
			if (e == api.OK) != (e2 == api.OK) || !sameSigs(sigs, again) {
				t.Fatal(s, e, e2)
			}
		}
	}
}

// instanceOf reports whether putting something for the variables of one type makes another one, of which the variables are constants.
func instanceOf(t, special api.Type) bool {
	became := map[int]api.Type{}
	for ; t.Op == api.YAll; t = t.Args[1] {
	}
	for ; special.Op == api.YAll; special = special.Args[1] {
	}
	var matches func(t, u api.Type) bool
	matches = func(t, u api.Type) bool {
		if t.Op == api.YVar {
			if first, ok := became[t.N]; ok {
				return types.Same(first, u)
			}
			became[t.N] = u
			return true
		}
		return t.Op == u.Op && t.S == u.S && len(t.Args) == len(u.Args) &&
			(len(t.Args) == 0 || matches(t.Args[0], u.Args[0]) && matches(t.Args[1], u.Args[1]))
	}
	return matches(t, special)
}

// TestMostGeneral: a definition that does not need itself has just the types that are instances of the inferred one (P10).
func TestMostGeneral(t *testing.T) {
	counts := map[bool]int{}
	for seed := range int64(rounds) {
		m := newMaker(seed, 1000)
		source := m.module(1)
		p, env := built(t, source)
		last := &p.Decls[len(p.Decls)-1]
		if slices.Contains(free.Variables(&api.Expr{Op: api.XCase, Alts: last.Alts}), last.Name) {
			continue
		}
		sigs, _, e := Infer(p, env)
		if e != api.OK {
			continue
		}
		for range 4 {
			special := m.special(sigs[0].Type)
			q, env := signed(p, env, []api.Sig{{Name: last.Name, Type: special}})
			_, _, e := Infer(q, env)
			want := instanceOf(sigs[0].Type, special)
			if (e == api.OK) != want || e != api.OK && e != api.ErrType {
				t.Fatal(source, show(sigs[0].Type), show(special), e)
			}
			counts[want]++
		}
	}
	if counts[true] < rounds/2 || counts[false] < rounds/2 {
		t.Error("too few:", counts)
	}
}

// special puts types for variables of a type, and sometimes for other parts of it, that have two further variables.
func (m *maker) special(t api.Type) api.Type {
	for ; t.Op == api.YAll; t = t.Args[1] {
	}
	some := func() api.Type {
		c, _, _ := syntax.Type(m.simple(1).text())
		return inWorld(c)
	}
	became := map[int]api.Type{}
	var change func(t api.Type) api.Type
	change = func(t api.Type) api.Type {
		isType := t.Op == api.YVar || t.Op == api.YCon && (t.S == "Int" || t.S == "Bool")
		switch {
		case isType && m.Intn(3) == 0:
			return some()
		case t.Op == api.YVar:
			if _, ok := became[t.N]; !ok {
				became[t.N] = some()
			}
			return became[t.N]
		case t.Op == api.YApp:
			return api.Type{Op: t.Op, Args: []api.Type{change(t.Args[0]), change(t.Args[1])}}
		}
		return t
	}
	t = change(t)
	for range 2 {
		t = api.Type{Op: api.YAll, Args: []api.Type{star(), t}}
	}
	return t
}

// inWorld gives the constants of a type their full names, and makes its names the variables 1 and 0.
func inWorld(t api.Type) api.Type {
	switch {
	case t.Op == api.YName:
		return api.Type{Op: api.YVar, N: int('b' - t.S[0])}
	case t.Op == api.YCon && strings.Contains("List Pair Maybe", t.S):
		return api.Type{Op: t.Op, S: "M." + t.S}
	}
	made := api.Type{Op: t.Op, S: t.S}
	for _, a := range t.Args {
		made.Args = append(made.Args, inWorld(a))
	}
	return made
}
