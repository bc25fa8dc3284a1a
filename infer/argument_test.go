package infer

import (
	"math/rand"
	"reflect"
	"slices"
	"strings"
	"testing"

	"damask/anew"
	"damask/api"
	"damask/decl"
	"damask/internal/sample"
	"damask/internal/text"
	"damask/scope"
	"damask/syntax"
	"damask/types"
)

// TestExamples are those of the chapter.
func TestExamples(t *testing.T) {
	l, _, _ := syntax.Modules(sample.Example)
	p, _ := scope.Resolve(l)
	env, p, _, _ := decl.Build(p)
	sigs, at, e := Infer(p, env)
	if e != api.OK || at != 0 || len(sigs) != 5 || sigs[1].Name != "Main.append" || text.Show(sigs[1].Type) != "forall a (b : Main.Nat) (c : Main.Nat). Main.Vec a b -> Main.Vec a c -> Main.Vec a (Main.Plus b c)" || text.Show(sigs[4].Type) != "IO Unit" {
		t.Error(sigs, at, e)
	}
}

// resolved makes an expression of a source as it is in a program behind the world.
func resolved(t *testing.T, source string) api.Expr {
	t.Helper()
	p := resolve(t, world+"it = "+source+";")
	return p.Decls[len(p.Decls)-1].Alts[0].Rhs[0].Then
}

func TestExpr(t *testing.T) {
	p, env := built(t, world+"later x = add x 1; mine : Int; mine = later 1;")
	sigs := []api.Sig{{Name: "M.extra", Type: text.Type("forall a. a -> IO a")}, {Name: "M.later", Type: text.Type("Int -> Int")}, {Name: "M.mine", Type: text.Type("Bool")}, {Name: "M.extra", Type: text.Type("Int")}}
	for _, row := range []struct{ source, want string }{
		{"1", "Int"}, {"\\x -> x", "forall a. a -> a"}, {"\\x y -> x", "forall a b. a -> b -> a"}, {"Cons 1", "List Int -> List Int"}, {"let { x = y; y = x; } in x", "forall a. a"},
		{"poly", "(forall a. a -> a) -> Int"}, {"same 1", "Int -> Bool"}, {"same", "error 24"}, {"1 2", "error 24"}, {"\\(Pair x) -> x", "error 22"}, {"(1 : List)", "error 23"}, {"px Nil", "error 24"},
	} {
		found, e := Expr(p, env, nil, resolved(t, row.source))
		if got := show(found); e == api.OK && got != row.want || e != api.OK && (errorText(e, 0) != row.want+" at 0" || found.Op != 0) {
			t.Error(row.source, got, e)
		}
	}
	for _, row := range []struct {
		e    api.Expr
		sigs []api.Sig
		want string
		err  api.Errno
	}{
		{xvar("M.extra"), sigs, "forall a. a -> IO a", api.OK}, {xvar("M.extra"), nil, "", api.ErrName}, {xvar("M.later"), sigs, "Int -> Int", api.OK}, {xvar("M.later"), nil, "", api.ErrName},
		{xvar("M.mine"), nil, "Int", api.OK}, {xvar("M.mine"), sigs, "Int", api.OK}, {xvar("add"), nil, "Int -> Int -> Int", api.OK}, {xvar("un"), nil, "", api.ErrName}, {xcon("M.No"), nil, "", api.ErrNone},
		{api.Expr{Op: api.XOps, Args: []api.Expr{number(), number()}, Fields: []string{"add"}}, nil, "", api.ErrForm}, {api.Expr{Op: api.XDo, Stmts: []api.Stmt{{Expr: number()}}}, nil, "", api.ErrForm},
		{xapp(xvar("un"), api.Expr{Op: api.XDo}), nil, "", api.ErrName}, {xapp(api.Expr{Op: api.XDo}, xvar("un")), nil, "", api.ErrForm}, {xapp(xvar("add"), api.Expr{Op: api.XDo}, xvar("un")), nil, "", api.ErrForm},
		{ann(number(), api.Type{Op: api.YName, S: "a"}), nil, "", api.ErrName}, {ann(xvar("un"), api.Type{Op: api.YName, S: "a"}), nil, "", api.ErrName}, {ann(xvar("un"), named("No")), nil, "", api.ErrName}, {ann(number(), api.Type{Op: api.YVar}), nil, "", api.ErrNone},
		{api.Expr{}, nil, "", api.ErrArg}, {api.Expr{Op: 99}, nil, "", api.ErrArg}, {api.Expr{Op: api.XApp}, nil, "", api.ErrArg}, {api.Expr{Op: api.XAnn}, nil, "", api.ErrArg}, {api.Expr{Op: api.XIf}, nil, "", api.ErrArg}, {api.Expr{Op: api.XLet}, nil, "", api.ErrArg}, {api.Expr{Op: api.XUpd}, nil, "", api.ErrField}, {api.Expr{Op: api.XRec}, nil, "", api.ErrNone},
		{api.Expr{Op: api.XLam, Pats: []api.Pat{{}}, Args: []api.Expr{number()}}, nil, "", api.ErrArg}, {ann(number(), api.Type{Op: api.YMeta}), nil, "", api.ErrArg}, {xapp(ann(number(), named("Int")), ann(number(), api.Type{Op: api.YRigid})), nil, "", api.ErrArg}, {ann(number(), api.Type{Op: 12}), nil, "", api.ErrFull},
		{number(), []api.Sig{{Name: "M.extra", Type: api.Type{Op: api.YMeta}}}, "", api.ErrArg}, {number(), []api.Sig{{Name: "M.extra"}}, "", api.ErrArg}, {number(), []api.Sig{{Name: "M.extra", Type: named("List")}}, "", api.ErrArg}, {number(), []api.Sig{{Name: "M.extra", Type: api.Type{Op: api.YVar}}}, "", api.ErrArg},
	} {
		found, e := Expr(p, env, row.sigs, row.e)
		if e != row.err || e == api.OK && show(found) != row.want || e != api.OK && found.Op != 0 {
			t.Error(row.e, show(found), e)
		}
	}
}

// TestLocalNames: a local variable hides a global one, whatever it is called.
func TestLocalNames(t *testing.T) {
	p, env := built(t, world)
	e := api.Expr{Op: api.XLam, Pats: []api.Pat{{Op: api.PVar, S: "add"}, {Op: api.PAs, S: "M.poly", Args: wild()}}, Args: []api.Expr{xapp(xvar("add"), xvar("M.poly"))}}
	if found, e := Expr(p, env, nil, e); e != api.OK || show(found) != "forall a b. (a -> b) -> a -> b" {
		t.Error(show(found), e)
	}
}

func TestGroups(t *testing.T) {
	p, env := built(t, "f x = g x; g y = h y; h z = g z; k : Int; k = f 1; u = k;")
	want := [][]int{{1, 2}, {0}, {4}, {5}}
	groups, e := Groups(p)
	if e != api.OK || !reflect.DeepEqual(groups, want) || !reflect.DeepEqual(p.Groups, want) {
		t.Error(groups, e)
	}
	for n, of := range []string{"m0, m1", "m0", "Int", "m0"} {
		q, l, e := Problem(p, env, []api.Sig{{Name: "M.g", Type: text.Type("forall a b. a -> b")}, {Name: "M.f", Type: text.Type("Int -> Int")}}, n)
		if e != api.OK || showEach(l) != of || len(q.Wants) == 0 {
			t.Error(n, showEach(l), e)
		}
	}
	for n, want := range map[int]api.Errno{-1: api.ErrNone, 4: api.ErrNone, 0: api.OK, 1: api.ErrName, 2: api.ErrName} {
		q, l, e := Problem(p, env, nil, n)
		if e != want || e != api.OK && (q.Metas != nil || q.Imps != nil || q.Wants != nil || l != nil) {
			t.Error(n, e)
		}
	}
	// with a further DSig of one of a group
	p.Decls = append(p.Decls, api.Decl{Op: api.DSig, Name: "M.h", Type: text.Type("Int -> Int")})
	env.Sigs = append(env.Sigs, api.Sig{Name: "M.h", Type: text.Type("Int -> Int")})
	groups, e = Groups(p)
	if e != api.OK || !reflect.DeepEqual(groups, [][]int{{1}, {2}, {0}, {4}, {5}}) {
		t.Error(groups, e)
	}
	if sigs, at, e := Infer(p, env); e != api.OK || len(sigs) != 5 || show(sigs[1].Type) != "Int -> Int" || show(sigs[0].Type) != "Int -> Int" {
		t.Error(sigs, at, e)
	}
	if groups, e := Groups(api.Program{}); e != api.OK || len(groups) != 0 {
		t.Error(groups, e)
	}
}

// TestNotBuilt: what no Build returns is found out where the parts do not belong together.
func TestNotBuilt(t *testing.T) {
	source := "f : Int; f = 1; g = f; instance Eq Bool { same x y = True; };"
	right, env := built(t, world+source)
	last := len(right.Decls) - 1
	for name, change := range map[string]func(p *api.Program, env *api.Env){
		"a group too few":     func(p *api.Program, env *api.Env) { p.Groups = p.Groups[1:] },
		"a group too many":    func(p *api.Program, env *api.Env) { p.Groups = append(p.Groups, p.Groups[0]) },
		"twice in a group":    func(p *api.Program, env *api.Env) { p.Groups[0] = []int{p.Groups[0][0], p.Groups[0][0]} },
		"no such declaration": func(p *api.Program, env *api.Env) { p.Groups[0][0] = last + 1 },
		"a negative one":      func(p *api.Program, env *api.Env) { p.Groups[0][0] = -1 },
		"no DBind":            func(p *api.Program, env *api.Env) { p.Groups[0][0] = last },
	} {
		p, made := anew.Program(&right), anew.Env(&env)
		change(&p, &made)
		groups, e := Groups(p)
		if e != api.ErrArg || groups != nil {
			t.Error(name, groups, e)
		}
		checkRefused(t, name, p, made)
	}
	for name, change := range map[string]func(p *api.Program, env *api.Env){
		"a DSig without its Sig":     func(p *api.Program, env *api.Env) { env.Sigs = env.Sigs[:3] },
		"a DSig of another type":     func(p *api.Program, env *api.Env) { p.Decls[last-3].Type = named("Bool") },
		"an instance less":           func(p *api.Program, env *api.Env) { env.Instances = env.Instances[:len(env.Instances)-1] },
		"another environment at all": func(p *api.Program, env *api.Env) { *env = decl.Builtin() },
	} {
		p, made := anew.Program(&right), anew.Env(&env)
		change(&p, &made)
		checkRefused(t, name, p, made)
	}
	for name, change := range map[string]func(p *api.Program, env *api.Env){
		"no such class":   func(p *api.Program, env *api.Env) { env.Instances[3].Class = "M.No" },
		"no such method":  func(p *api.Program, env *api.Env) { p.Decls[last].Decls[0].Name = "M.no" },
		"no alternatives": func(p *api.Program, env *api.Env) { p.Decls[last-1].Alts = nil },
		"too many patterns": func(p *api.Program, env *api.Env) {
			p.Decls[last].Decls[0].Alts = append(p.Decls[last].Decls[0].Alts, api.Alt{Pats: append(wild(), append(wild(), wild()...)...)})
		},
		"variables of no sort": func(p *api.Program, env *api.Env) { env.Instances[3].Vars = []api.Type{{}} },
	} {
		p, made := anew.Program(&right), anew.Env(&env)
		change(&p, &made)
		if sigs, at, e := Infer(p, made); e != api.ErrArg || sigs != nil || at != 0 {
			t.Error(name, at, e)
		}
	}
}

func checkRefused(t *testing.T, name string, p api.Program, env api.Env) {
	t.Helper()
	if sigs, at, e := Infer(p, env); e != api.ErrArg || sigs != nil || at != 0 {
		t.Error(name, at, e)
	}
	if found, e := Expr(p, env, nil, xvar("unknown")); e != api.ErrArg || found.Op != 0 {
		t.Error(name, e)
	}
	if q, l, e := Problem(p, env, nil, -1); e != api.ErrArg || q.Metas != nil || l != nil {
		t.Error(name, e)
	}
}

// deepCopy returns a value in new memory.
func deepCopy(v reflect.Value) reflect.Value {
	c := reflect.New(v.Type()).Elem()
	switch v.Kind() {
	case reflect.Struct:
		for i := range v.NumField() {
			c.Field(i).Set(deepCopy(v.Field(i)))
		}
	case reflect.Slice:
		if v.IsNil() {
			return c
		}
		c.Set(reflect.MakeSlice(v.Type(), v.Len(), v.Len()))
		for i := range v.Len() {
			c.Index(i).Set(deepCopy(v.Index(i)))
		}
	default:
		c.Set(v)
	}
	return c
}

func copied[T any](v T) T { return deepCopy(reflect.ValueOf(v)).Interface().(T) }

// spoil changes all strings and numbers of a value, each once: what is there twice would be changed already.
func spoil(v reflect.Value) {
	switch v.Kind() {
	case reflect.Struct:
		for i := range v.NumField() {
			spoil(v.Field(i))
		}
	case reflect.Slice:
		for i := range v.Len() {
			spoil(v.Index(i))
		}
	case reflect.String:
		if strings.HasPrefix(v.String(), "?") {
			panic("memory is shared within a result")
		}
		v.SetString("?" + v.String())
	case reflect.Int:
		v.SetInt(-7)
	}
}

// TestMemory: arguments stay what they are, and share no memory with results.
func TestMemory(t *testing.T) {
	for _, s := range sources() {
		p, env := built(t, s)
		type arguments struct {
			P    api.Program
			Env  api.Env
			Sigs []api.Sig
			E    api.Expr
		}
		sigs, _, _ := Infer(p, env)
		args := arguments{p, env, copied(sigs), api.Expr{Op: api.XApp, Args: []api.Expr{xvar("seq"), number()}}}
		before := copied(args)
		results := []any{sigs}
		groups, _ := Groups(p)
		results = append(results, groups)
		for n := range groups {
			q, l, _ := Problem(args.P, args.Env, args.Sigs, n)
			results = append(results, []api.Problem{q}, l)
		}
		found, _ := Expr(args.P, args.Env, args.Sigs, args.E)
		results = append(results, []api.Type{found})
		for _, r := range results {
			spoil(reflect.ValueOf(r))
		}
		if !reflect.DeepEqual(args, before) {
			t.Fatal("changed:", s)
		}
	}
}

// mutated changes some fields of a value at random.
func mutated(r *rand.Rand, v reflect.Value, often int) {
	switch v.Kind() {
	case reflect.Struct:
		for i := range v.NumField() {
			mutated(r, v.Field(i), often)
		}
	case reflect.Slice:
		if n := v.Len(); n > 0 && r.Intn(often) == 0 {
			v.Set(v.Slice(0, r.Intn(n)))
		}
		for i := range v.Len() {
			mutated(r, v.Index(i), often)
		}
	case reflect.Int:
		if r.Intn(often) == 0 {
			v.SetInt(int64(r.Intn(16)) - 1)
		}
	case reflect.String:
		if r.Intn(often) == 0 {
			v.SetString([]string{"", "x", "M.Nil", "M.same", "add", "Int", "'M.Z"}[r.Intn(7)])
		}
	}
}

// TestAnything: whatever the arguments are, there is an answer, always the same one, and none beside an error.
func TestAnything(t *testing.T) {
	r := rand.New(rand.NewSource(3))
	count := map[api.Errno]int{}
	all := corpus()
	for range 3000 {
		p, env := built(t, world+all[r.Intn(len(all))])
		p, env = copied(p), copied(env)
		e := api.Expr{Op: api.XLet, Decls: copied(p.Decls[len(p.Decls)-1:]), Args: []api.Expr{number()}}
		switch r.Intn(3) {
		case 0:
			mutated(r, reflect.ValueOf(&p.Decls[len(p.Decls)-1]).Elem(), 12)
		case 1:
			mutated(r, reflect.ValueOf(&env).Elem(), 300)
		case 2:
			mutated(r, reflect.ValueOf(&p).Elem(), 150)
		}
		mutated(r, reflect.ValueOf(&e).Elem(), 20)
		sigs, at, e1 := Infer(p, env)
		found, e2 := Expr(p, env, sigs, e)
		q, l, e3 := Problem(p, env, sigs, r.Intn(5))
		if e1 != api.OK && sigs != nil || e1 == api.OK && at != 0 || at < 0 || at > len(p.Decls) || e2 != api.OK && found.Op != 0 || e3 != api.OK && (q.Metas != nil || q.Rigids != nil || q.Imps != nil || q.Wants != nil || l != nil) {
			t.Fatal(e1, at, e2, found, e3)
		}
		again, at2, e4 := Infer(p, env)
		found2, e5 := Expr(p, env, sigs, e)
		if !sameSigs(sigs, again) || at2 != at || e4 != e1 || e5 != e2 || !types.Same(found, found2) {
			t.Fatal("another answer")
		}
		count[e1]++
		count[e2]++
	}
	for _, e := range []api.Errno{api.OK, api.ErrArg, api.ErrName, api.ErrForm, api.ErrKind, api.ErrType, api.ErrNone} {
		if count[e] < 5 {
			t.Error("too few with this error:", e, count)
		}
	}
}

// TestDeep: expressions and patterns can be nested as deeply as one likes.
func TestDeep(t *testing.T) {
	const depth = 1 << 16
	p, env := built(t, world)
	bind := func(e api.Expr) []api.Decl {
		return []api.Decl{{Op: api.DSig, Name: "x", Type: named("Int")}, {Op: api.DBind, Name: "x", Alts: []api.Alt{{Rhs: value(e)}}}}
	}
	x := []api.Pat{{Op: api.PVar, S: "x"}}
	for i, row := range []struct {
		around func(e api.Expr) api.Expr
		want   api.Errno
	}{
		{func(e api.Expr) api.Expr { return cases(number(), x, e) }, api.OK},
		{func(e api.Expr) api.Expr { return cases(e, wild()) }, api.ErrFull},
		{func(e api.Expr) api.Expr { return api.Expr{Op: api.XLet, Decls: bind(nothing()), Args: []api.Expr{e}} }, api.OK},
		{func(e api.Expr) api.Expr { return api.Expr{Op: api.XLet, Args: []api.Expr{e}} }, api.OK},
		{func(e api.Expr) api.Expr { return api.Expr{Op: api.XLet, Decls: bind(e), Args: []api.Expr{number()}} }, api.ErrFull},
		{func(e api.Expr) api.Expr { return xapp(number(), e) }, api.ErrFull}, {func(e api.Expr) api.Expr { return xapp(e, number()) }, api.ErrFull},
		{func(e api.Expr) api.Expr { return ann(e, named("Int")) }, api.ErrFull},
		{func(e api.Expr) api.Expr { return api.Expr{Op: api.XLam, Pats: x, Args: []api.Expr{e}} }, api.ErrFull},
	} {
		e := number()
		for range depth {
			e = row.around(e)
		}
		if found, e := Expr(p, env, nil, e); e != row.want || e == api.OK && show(found) != "Int" {
			t.Error(i, show(found), e)
		}
	}
	pat := api.Pat{Op: api.PWild}
	for i := range depth {
		pat = api.Pat{Op: []int{api.PBang, api.PLazy, api.PAs}[i%3], S: []string{"", "", "y"}[i%3], Args: []api.Pat{pat}}
	}
	if found, e := Expr(p, env, nil, cases(number(), []api.Pat{pat}, xvar("y"))); e != api.OK || show(found) != "Int" {
		t.Error(show(found), e)
	}
	deep := named("Int")
	for range depth {
		deep = api.Type{Op: api.YApp, Args: []api.Type{named("M.List"), deep}}
	}
	if found, e := Expr(p, env, nil, ann(number(), deep)); e != api.ErrFull {
		t.Error(show(found), e)
	}
	many := api.Expr{Op: api.XLet, Decls: slices.Repeat(bind(nothing()), depth), Args: []api.Expr{number()}}
	if found, e := Expr(p, env, nil, many); e != api.OK || show(found) != "Int" {
		t.Error(show(found), e)
	}
}
