package scope

import (
	"math/rand"
	"reflect"
	"slices"
	"strconv"
	"strings"
	"testing"

	"damask/api"
	"damask/free"
	"damask/syntax"
)

// writer writes modules in which every name is known. Local variables have a prefix and a number.
type writer struct {
	*rand.Rand
	prefix string
	made   int
}

func (w *writer) local() string {
	w.made++
	return w.prefix + strconv.Itoa(w.made)
}

func (w *writer) one(l ...string) string { return l[w.Intn(len(l))] }

// expr uses names that are known where it stands.
func (w *writer) expr(depth int, known []string) string {
	in := func() string { return "(" + w.expr(depth-1, known) + ")" }
	if depth == 0 {
		return w.one(known...)
	}
	x, y := w.local(), w.local()
	with := func(names ...string) string {
		return "(" + w.expr(depth-1, append(slices.Clone(known), names...)) + ")"
	}
	switch w.Intn(9) {
	case 0:
		return in() + " " + in()
	case 1:
		return in() + " + " + in() + " * " + in() + " + " + in()
	case 2:
		return "\\" + x + " (!" + y + ") -> " + with(x, y)
	case 3:
		return "let { infix 3 *; " + x + " = " + with(x, y) + "; " + y + " : forall t. t; " + y + " = " + with(x, y) + " @t; (*) = " + in() + "; } in " + with(x, y)
	case 4:
		return "case " + in() + " of { True -> " + in() + "; " + x + "@(K _ ~" + y + ") | " + with(x, y) + " -> " + with(x, y) + "; }"
	case 5:
		return "do { " + x + " <- " + in() + "; " + with(x) + "; let { " + y + " = " + with(x, y) + "; }; " + with(x, y) + "; }"
	case 6:
		return "if " + in() + " then " + in() + " else (" + in() + " : t -> Int)"
	case 7:
		return "K { a = " + in() + " } { a = " + in() + " }"
	}
	return in()
}

// module declares values with the names f, g and so on, which others do not declare.
func (w *writer) module(name string, imports []string, values, brought []string) string {
	s := "module " + name + " { "
	for _, i := range imports {
		s += "import " + i + "; "
	}
	if len(imports) == 0 { // the first one has what all others use
		s += "data T : Type { K : { a : T, b : T } -> T; }; infixl 6 +; infixr 7 *; x + y = y; x * y = x; bind = bindIO; "
	}
	known := slices.Concat(values, brought, []string{"add", "put", "True"})
	for _, v := range values {
		x, y := w.local(), w.local()
		s += v + " : forall t. t -> u; "
		s += v + " " + x + " = " + w.expr(3, append(slices.Clone(known), x, y)) + " where { " + y + " = " + w.expr(1, append(slices.Clone(known), x)) + "; }; "
	}
	return s + "} "
}

// chain returns modules of which each imports all those before it.
func chain(seed int64, prefix string) []string {
	w := &writer{Rand: rand.New(rand.NewSource(seed)), prefix: prefix}
	var modules, names, brought []string
	for i := range 2 + w.Intn(3) {
		values := []string{"f" + strconv.Itoa(i), "g" + strconv.Itoa(i)}
		name := string(rune('Z' - i))
		modules = append(modules, w.module(name, names, values, brought))
		names = append(names, name)
		brought = append(brought, values...)
	}
	return modules
}

func show(p api.Program) string {
	s := ""
	for _, d := range p.Decls {
		s += showDecl(d) + "\n"
	}
	for _, g := range p.Groups {
		s += " ["
		for _, n := range g {
			s += " " + strconv.Itoa(n)
		}
		s += " ]"
	}
	return s
}

// TestOtherOrder: a program has the same declarations if its modules, in the same Order, stand in another one.
func TestOtherOrder(t *testing.T) {
	for seed := range int64(200) {
		modules := chain(seed, "l")
		p, e := Resolve(read(t, strings.Join(modules, "")))
		if e != api.OK {
			t.Fatal(e, modules)
		}
		want := show(p)
		rand.New(rand.NewSource(seed)).Shuffle(len(modules), reflect.Swapper(modules))
		p, e = Resolve(read(t, strings.Join(modules, "")))
		if got := show(p); e != api.OK || got != want {
			t.Fatal(e, got, want)
		}
	}
}

// TestOtherNames: the names of local variables do not matter, also where a global has the same one.
func TestOtherNames(t *testing.T) {
	for seed := range int64(300) {
		source := strings.Join(chain(seed, "l"), "")
		p, e := Resolve(read(t, source))
		if e != api.OK {
			t.Fatal(e, source)
		}
		other := strings.Join(chain(seed, "zz"), "")
		q, e := Resolve(read(t, other))
		if e != api.OK || strings.ReplaceAll(show(q), "zz", "l") != show(p) {
			t.Fatal(e, other)
		}
	}
	for _, name := range []string{"f0", "bind", "a", "put"} { // what hides a global is not that global
		source := strings.Join(chain(1, "l"), "") + "module M { import Z; h " + name + " = let { w = " + name + "; } in w " + name + "; }"
		p, e := Resolve(read(t, source))
		if e != api.OK {
			t.Fatal(e, source)
		}
		if got := showDecl(p.Decls[len(p.Decls)-1]); got != "<M.h ["+name+" = (let <w [= "+name+"]> (w "+name+"))]>" {
			t.Error(got)
		}
	}
}

// TestProgramIsFull: all that is not bound where it stands has a full name that the program has, or one that is built in.
func TestProgramIsFull(t *testing.T) {
	_, values := Builtin()
	for seed := range int64(200) {
		p, e := Resolve(read(t, strings.Join(chain(seed, "l"), "")))
		if e != api.OK {
			t.Fatal(e)
		}
		var names []string
		for _, d := range p.Decls {
			if d.Op == api.DBind {
				names = append(names, d.Name)
			}
		}
		var inGroups []int
		for _, g := range p.Groups {
			inGroups = append(inGroups, g...)
			if !slices.IsSorted(g) {
				t.Fatal(g)
			}
		}
		if len(inGroups) != len(names) {
			t.Fatal(inGroups, names)
		}
		for _, d := range p.Decls {
			for _, name := range free.Variables(&api.Expr{Op: api.XCase, Alts: d.Alts}) {
				if !slices.Contains(names, name) && !slices.Contains(values, name) {
					t.Fatal(name, showDecl(d))
				}
			}
		}
	}
}

// TestNothingChanged: modules and expressions stay what they were, and are not kept.
func TestNothingChanged(t *testing.T) {
	m := newMaker(5)
	for i := range 600 {
		l := []api.Module{m.Module(), m.Module()}
		l[0].Name, l[1].Name = "M", "N"
		l[0].Imports, l[1].Imports = nil, []api.Import{{Module: "M", All: true}}
		if i%2 == 0 {
			l = read(t, strings.Join(chain(int64(i), "l"), ""))
		}
		before := copied(l)
		p, _ := Resolve(l)
		decls, _ := Groups(l[0].Decls)
		x := m.Expr(4)
		y := copied(x)
		z, _ := Strength([]string{"+", "==", "|>", "!~", "\\/", "@@"}, nil, x)
		spoil(reflect.ValueOf(&p).Elem())
		spoil(reflect.ValueOf(&z).Elem())
		spoil(reflect.ValueOf(&decls).Elem())
		if !slices.EqualFunc(l, before, syntax.Same) || !syntax.SameExpr(x, y) {
			t.Fatal("changed")
		}
	}
}

// copied returns a value in new memory.
func copied[T any](v T) T {
	return deepCopy(reflect.ValueOf(v)).Interface().(T)
}

func deepCopy(v reflect.Value) reflect.Value {
	c := reflect.New(v.Type()).Elem()
	switch v.Kind() {
	case reflect.Struct:
		for i := range v.NumField() {
			c.Field(i).Set(deepCopy(v.Field(i)))
		}
	case reflect.Slice:
		if v.IsNil() {
			return c
		}
		c.Set(reflect.MakeSlice(v.Type(), v.Len(), v.Len()))
		for i := range v.Len() {
			c.Index(i).Set(deepCopy(v.Index(i)))
		}
	default:
		c.Set(v)
	}
	return c
}

// spoil changes all strings and numbers of a value, each once: what is there twice would be changed already.
func spoil(v reflect.Value) {
	switch v.Kind() {
	case reflect.Struct:
		for i := range v.NumField() {
			spoil(v.Field(i))
		}
	case reflect.Slice:
		for i := range v.Len() {
			spoil(v.Index(i))
		}
	case reflect.String:
		if strings.HasPrefix(v.String(), "?") {
			panic("memory is shared within a result")
		}
		v.SetString("?" + v.String())
	}
}
