package decl

import (
	"math/rand"
	"reflect"
	"slices"
	"strings"
	"testing"

	"damask/api"
	"damask/types"
)

func TestLooking(t *testing.T) {
	env, _ := built(t, base+`
		data R : Type -> Type { R : forall a. { f : a, g : Int } -> R a; };
		data G : Type -> Nat -> Type { G : forall a (n : Nat) b. b ~ List a => Eq b => Int ~ b => Ord a => a -> b -> G (List a) ('S n); H : G Int 'Z; };
		class C (a) (b : Nat) { m : a; (!!) : Vec a b; }; class E { };
	`)
	for name, want := range map[string]string{
		"M.R": "forall a. a -> Int -> R a", "M.Z": "Nat", "M.S": "Nat -> Nat", "True": "Bool", "False": "Bool", "Unit": "Unit", "M.Cons": "forall a. a -> List a -> List a",
		"M.VNil": "forall a (b : Nat). b ~ 'Z => Vec a b", "M.VCons": "forall a (b : Nat) (c : Nat). b ~ 'S c => a -> Vec a c -> Vec a b", "M.Proxy": "forall a (b : a). Proxy a b",
		"M.G": "forall a (b : Nat) c (d : Nat) e. a ~ List c => b ~ 'S d => e ~ List c => Int ~ e => Eq e => Ord c => c -> e -> G a b", "M.H": "forall a (b : Nat). a ~ Int => b ~ 'Z => G a b",
	} {
		typ, e := ConType(env, name)
		c, e2 := Con(env, name)
		if e != api.OK || e2 != api.OK || show(typ) != want || c.Name != name {
			t.Error(name, show(typ), e, showCon(c), e2)
		}
		if IsPlain(c) != !strings.Contains(want, "=>") {
			t.Error("plain:", name)
		}
	}
	for _, name := range []string{"", "M.Nope", "Z", "M.Nat", "'M.Z", "M.f", "Int", "M.same"} {
		c, e := Con(env, name)
		typ, e2 := ConType(env, name)
		if e != api.ErrNone || e2 != api.ErrNone || !reflect.DeepEqual(c, api.DataCon{}) || !types.Same(typ, api.Type{}) {
			t.Error(name, e, e2)
		}
	}
	for _, row := range []struct {
		name, class string
		n           int
		e           api.Errno
	}{
		{"M.m", "M.C", 0, api.OK}, {"M.!!", "M.C", 1, api.OK}, {"M.same", "M.Eq", 0, api.OK}, {"M.below", "M.Ord", 0, api.OK}, {"M.insert", "M.Collect", 0, api.OK},
		{"m", "", 0, api.ErrNone}, {"", "", 0, api.ErrNone}, {"M.f", "", 0, api.ErrNone}, {"add", "", 0, api.ErrNone}, {"M.C", "", 0, api.ErrNone},
	} {
		if class, n, e := Method(env, row.name); class != row.class || n != row.n || e != row.e {
			t.Error(row.name, class, n, e)
		}
	}
	one := []api.Type{named("Int")}
	for want, l := range map[bool][]api.DataCon{
		true:  {{}, {Univ: one, Args: one, Fields: []string{"f"}}},
		false: {{Exis: one}, {Given: one}, {Eqs: []api.Eq{{}}}},
	} {
		for _, c := range l {
			if IsPlain(c) != want {
				t.Error(c)
			}
		}
	}
}

// spoiled changes something in a value here and there: numbers, strings, and how long lists are.
func spoiled(r *rand.Rand, v reflect.Value, often int) {
	if r.Intn(often) == 0 && v.Kind() == reflect.Struct {
		v = v.Field(r.Intn(v.NumField()))
		switch v.Kind() {
		case reflect.Int:
			v.SetInt(int64(r.Intn(13) - 2))
		case reflect.String:
			v.SetString([]string{"", "M.Nat", "M.List", "Int", "~", "->", "M.Eq", "a", "M.Plus", "'M.Z", "M.same", "True"}[r.Intn(12)])
		case reflect.Bool:
			v.SetBool(!v.Bool())
		case reflect.Slice:
			if n := v.Len(); n > 0 && r.Intn(2) == 0 {
				v.Set(v.Slice(0, r.Intn(n)))
			} else if n > 0 {
				v.Set(reflect.Append(v.Slice3(0, n, n), v.Index(r.Intn(n))))
			}
		}
		return
	}
	switch v.Kind() {
	case reflect.Struct:
		for i := range v.NumField() {
			spoiled(r, v.Field(i), often)
		}
	case reflect.Slice:
		for i := range v.Len() {
			spoiled(r, v.Index(i), often)
		}
	}
}

// TestSpoiled: there is a result for all programs and environments, and nothing beside an error.
func TestSpoiled(t *testing.T) {
	same := func(s string) string { return s }
	r := rand.New(rand.NewSource(3))
	count := map[api.Errno]int{}
	_, declarations := grown(11, count)
	clear(count)
	for i := range 3000 {
		if i%300 == 0 {
			_, declarations = grown(int64(i), map[api.Errno]int{})
			declarations = append(declarations, "family Plus : Nat -> Nat -> Nat { Plus 'Z m = m; }; data List : Type -> Type deriving (Ord) { Nil : List a; Cons : forall a. { x : a, xs : List a } -> List a; };")
		}
		p, _ := programOf(declarations)
		p = changed(p, same)
		spoiled(r, reflect.ValueOf(&p).Elem(), 1+r.Intn(400))
		env, q, at, e := Build(p)
		count[e]++
		if e != api.OK && (!reflect.DeepEqual(env, api.Env{}) || !reflect.DeepEqual(q, api.Program{}) || at < 0 || at >= max(1, len(p.Decls))) {
			t.Fatal("something beside an error", e, at)
		}
		if e != api.OK {
			continue
		}
		spoiled(r, reflect.ValueOf(&env).Elem(), 1+r.Intn(200))
		for _, c := range env.Cons {
			typ, e := ConType(env, c.Name)
			if (e == api.OK) != (types.Check(typ) == api.OK) {
				t.Fatal(show(typ), e)
			}
			Con(env, c.Name)
		}
		for _, c := range env.Classes {
			args := values(r, len(c.Vars))
			l, e := Supers(env, applied(named(c.Name), args...))
			n, e2 := Instances(env, c.Name, args)
			if e != api.OK && len(l) > 0 || e2 != api.OK && len(n) > 0 {
				t.Fatal("something beside an error", e, e2)
			}
			for _, s := range c.Sigs {
				Method(env, s.Name)
			}
		}
	}
	for _, e := range []api.Errno{api.OK, api.ErrName, api.ErrForm, api.ErrKind, api.ErrFull} {
		if count[e] < 20 {
			t.Error("too few with this error:", e, count)
		}
	}
}

// TestDeep: nothing is too deep.
func TestDeep(t *testing.T) {
	typ, expr := named("Int"), api.Expr{Op: api.XInt}
	for range 1 << 16 {
		typ = applied(named("IO"), typ)
		expr = api.Expr{Op: api.XApp, Args: []api.Expr{expr, {Op: api.XInt}}}
	}
	sig := api.Decl{Op: api.DSig, Name: "f", Type: typ}
	bind := api.Decl{Op: api.DBind, Name: "f", Alts: []api.Alt{{Rhs: []api.Guard{{Then: expr}}}}}
	if _, _, at, e := Build(api.Program{Decls: []api.Decl{bind, sig}}); at != 1 || e != api.ErrFull {
		t.Error(at, e)
	}
	_, p, _, e := Build(api.Program{Decls: []api.Decl{bind}})
	if e != api.OK || len(p.Decls) != 1 {
		t.Error(e)
	}
	if _, e := Supers(api.Env{}, typ); e != api.ErrArg {
		t.Error(e)
	}
	if _, e := Instances(api.Env{}, "C", slices.Repeat([]api.Type{typ}, 3)); e != api.ErrArg {
		t.Error(e)
	}
}
