package problem

import (
	"strconv"
	"strings"

	"damask/api"
	"damask/decl"
	"damask/nodes"
	"damask/scope"
	"damask/syntax"
)

// World has some of everything that problems are about.
const World = `
	data Nat : Type { Z : Nat; S : Nat -> Nat; };
	data List : Type -> Type { Nil : List a; Cons : a -> List a -> List a; };
	data Pair : Type -> Type -> Type { Pair : a -> b -> Pair a b; };
	data Vec : Type -> Nat -> Type { VNil : Vec a 'Z; };
	data Proxy : forall (k : Type). k -> Type { };
	family Plus : Nat -> Nat -> Nat { Plus 'Z m = m; Plus ('S n) m = 'S (Plus n m); };
	family Elem : Type -> Type { Elem (List a) = a; Elem (Pair a b) = Elem a; Elem Int = Bool; };
	family Same : Type -> Type -> Bool { Same a a = 'True; Same a b = 'False; };
	family Box : Nat -> Type -> Type { Box 'Z = List; Box ('S n) = Pair (Vec Int n); };
	family Some : Type { };
	family Spin : Type { Spin = Spin; };
	family Grow : Type -> Type { Grow a = Grow (Pair a a); };
	class Eq (a) { };
	class Eq a => Ord (a) { };
	class Ord a => Num (a) { };
	class Collect (c) (e) | c -> e { };
	class Conv (a) (b) | a -> b, b -> a { };
	class Eq a => Triple (a) (b) (c) | a b -> c, c -> a b { };
	class Functor (f : Type -> Type) { };
	class Sized (n : Nat) { };
	class Empty { };
	class Apply (a) { };
	instance Eq Int { };
	instance forall a. Eq a => Eq (List a) { };
	instance forall a b. Eq a => Eq b => Eq (Pair a b) { };
	instance Ord Int { };
	instance forall a. Ord a => Ord (List a) { };
	instance forall a. Eq a => Collect (List a) a { };
	instance forall a b. Collect a b => Collect (Pair a b) (List b) { };
	instance Conv Int Bool { };
	instance forall a. Eq a => Conv (List a) (Pair a a) { };
	instance forall a b. Triple (List a) (List b) (Pair a b) { };
	instance Functor List { };
	instance forall a. Functor (Pair a) { };
	instance Sized 'Z { };
	instance Apply Int { };
	instance forall (f : Type -> Type) a. Apply a => Apply (f a) { };
	instance forall (n : Nat). Sized n => Sized ('S n) { };
`

// Env makes the environment of the declarations of a module, whose names stay as they are written.
func Env(source string) api.Env {
	l, at, e := syntax.Modules("module M { " + source + " }")
	if e != api.OK {
		panic("not read at " + strconv.Itoa(at))
	}
	p, e := scope.Resolve(l)
	if e != api.OK {
		panic("not resolved: " + strconv.Itoa(int(e)))
	}
	env, _, at, e := decl.Build(p)
	if e != api.OK {
		panic("not built: " + strconv.Itoa(int(e)) + " at " + strconv.Itoa(at))
	}
	shorten(&env)
	return env
}

// shorten takes the name of the module off all names.
func shorten(env *api.Env) {
	for i := range env.Data {
		name(&env.Data[i].Name)
		typ(&env.Data[i].Kind)
		names(env.Data[i].Cons)
	}
	for i := range env.Cons {
		c := &env.Cons[i]
		name(&c.Name)
		name(&c.Data)
		names(c.Fields)
		typs(c.Univ, c.Exis, c.Given, c.Args)
		for j := range c.Eqs {
			typ(&c.Eqs[j].Left)
			typ(&c.Eqs[j].Right)
		}
	}
	for i := range env.Families {
		f := &env.Families[i]
		name(&f.Name)
		typ(&f.Kind)
		for j := range f.Eqs {
			typs(f.Eqs[j].Vars, f.Eqs[j].Left)
			typ(&f.Eqs[j].Right)
		}
	}
	for i := range env.Classes {
		c := &env.Classes[i]
		name(&c.Name)
		typs(c.Vars, c.Supers)
		sigs(c.Sigs)
	}
	for i := range env.Instances {
		name(&env.Instances[i].Class)
		typs(env.Instances[i].Vars, env.Instances[i].Context, env.Instances[i].Args)
	}
	sigs(env.Sigs)
}

func name(s *string) { *s = strings.Replace(*s, "M.", "", 1) }

func names(l []string) {
	for i := range l {
		name(&l[i])
	}
}

func typ(t *api.Type) {
	*t = nodes.Replace(*t, func(leaf api.Type, _ int) api.Type {
		name(&leaf.S)
		return leaf
	})
}

func typs(lists ...[]api.Type) {
	for _, l := range lists {
		for i := range l {
			typ(&l[i])
		}
	}
}

func sigs(l []api.Sig) {
	for i := range l {
		name(&l[i].Name)
		typ(&l[i].Type)
	}
}
