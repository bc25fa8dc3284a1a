package decl

import (
	"math/rand"
	"slices"
	"strconv"
	"strings"

	"damask/api"
	"damask/scope"
	"damask/syntax"
)

// known is something that is declared, with the kinds of its arguments and of its result.
type known struct {
	name   string
	wants  []string
	result string
}

// writer writes declarations that are right mostly: it knows what it has declared.
type writer struct {
	*rand.Rand
	types    []known // data types, families and what is built in
	patterns []known // those of types that are no families
	classes  []known
	made     int
}

// binder is a variable of a type, with its kind.
type binder struct{ name, kind string }

func newWriter(seed int64) *writer {
	star, step := "Type", "(Type -> Type)"
	plain := []known{{"Int", nil, star}, {"Bool", nil, star}, {"IO", []string{star}, star}, {"IO", nil, step}, {"'Z", nil, "Nat"}, {"'S", []string{"Nat"}, "Nat"}, {"Nat", nil, star}}
	return &writer{Rand: rand.New(rand.NewSource(seed)), types: plain, patterns: slices.Clone(plain)}
}

func (w *writer) fresh(letter string) string {
	w.made++
	return letter + strconv.Itoa(w.made)
}

func (w *writer) kind() string {
	return []string{"Type", "Type", "Type", "Nat", "(Type -> Type)"}[w.Intn(5)]
}

func (w *writer) kinds(most int) []string {
	var l []string
	for range w.Intn(most + 1) {
		l = append(l, w.kind())
	}
	return l
}

// typ writes a type of a kind as something that needs no parentheses around it: of some types and variables, or of all with foralls and functions.
func (w *writer) typ(kind string, scope []binder, from []known, depth int) string {
	if kind == "Type" && depth > 0 && from == nil && w.Intn(5) == 0 {
		b := binder{w.fresh("q"), w.kind()}
		if w.Intn(2) == 0 {
			return "(" + w.typ("Type", scope, from, depth-1) + " -> " + w.typ("Type", scope, from, depth-1) + ")"
		}
		return "(forall (" + b.name + " : " + b.kind + "). " + w.typ("Type", append(slices.Clip(scope), b), from, depth-1) + ")"
	}
	var l []known
	for _, b := range scope {
		switch {
		case b.kind == kind:
			l = append(l, known{b.name, nil, kind}, known{b.name, nil, kind})
		case b.kind == "(Type -> Type)" && kind == "Type" && from == nil:
			l = append(l, known{b.name, []string{"Type"}, kind})
		}
	}
	inner := from
	if from == nil {
		from = w.types
	}
	for _, k := range from {
		if k.result == kind && (depth > 0 || len(k.wants) == 0) {
			l = append(l, k)
		}
	}
	k := l[w.Intn(len(l))]
	s := k.name
	for _, wanted := range k.wants {
		s += " " + w.typ(wanted, scope, inner, depth-1)
	}
	if len(k.wants) > 0 {
		s = "(" + s + ")"
	}
	return s
}

// constraint writes a class constraint, or an equation.
func (w *writer) constraint(scope []binder, depth int) string {
	if len(w.classes) == 0 || w.Intn(4) == 0 {
		k := w.kind()
		return w.typ(k, scope, nil, depth) + " ~ " + w.typ(k, scope, nil, depth)
	}
	return w.class(w.classes[w.Intn(len(w.classes))], scope, depth)
}

func (w *writer) class(c known, scope []binder, depth int) string {
	s := c.name
	for _, k := range c.wants {
		s += " " + w.typ(k, scope, nil, depth)
	}
	return s
}

func (w *writer) binders(kinds []string) []binder {
	var l []binder
	for _, k := range kinds {
		l = append(l, binder{w.fresh("a"), k})
	}
	return l
}

func forall(l []binder) string {
	if len(l) == 0 {
		return ""
	}
	s := "forall"
	for _, b := range l {
		s += " (" + b.name + " : " + b.kind + ")"
	}
	return s + ". "
}

func arrows(kinds []string, result string) string {
	return strings.Join(append(slices.Clone(kinds), result), " -> ")
}

// data writes a data type whose constructors are plain, or anything.
func (w *writer) data() string {
	d := known{w.fresh("D"), w.kinds(3), "Type"}
	plain := w.Intn(2) == 0
	s := "data " + d.name + " : " + arrows(d.wants, "Type")
	if plain && w.Intn(3) > 0 {
		s += " deriving (Eq" + []string{"", ", Ord"}[w.Intn(2)] + ")"
	}
	s += " { "
	w.types = append(w.types, d)
	for i := range w.Intn(4) {
		name := "K" + strconv.Itoa(i) + d.name
		if plain {
			s += w.plainCon(name, d)
		} else {
			s += w.con(name, d)
		}
	}
	w.patterns = append(w.patterns, d)
	return s + "};"
}

func (w *writer) plainCon(name string, d known) string {
	l := w.binders(d.wants)
	w.Shuffle(len(l), func(i, j int) { l[i], l[j] = l[j], l[i] })
	s := name + " : " + forall(l)
	result := d.name
	left := slices.Clone(l)
	for _, k := range d.wants {
		at := slices.IndexFunc(left, func(b binder) bool { return b.kind == k })
		result += " " + left[at].name
		left = slices.Delete(left, at, at+1)
	}
	for range w.Intn(3) {
		s += w.typ("Type", l, nil, 2) + " -> "
	}
	return s + result + "; "
}

func (w *writer) con(name string, d known) string {
	l := w.binders(w.kinds(4))
	s := name + " : " + forall(l)
	for range w.Intn(3) {
		s += w.constraint(l, 1) + " => "
	}
	for range w.Intn(3) {
		s += w.typ("Type", l, nil, 2) + " -> "
	}
	s += d.name
	for _, k := range d.wants {
		s += " " + w.typ(k, l, nil, w.Intn(2))
	}
	return s + "; "
}

func (w *writer) family() string {
	f := known{w.fresh("F"), w.kinds(3), w.kind()}
	s := "family " + f.name + " : " + arrows(f.wants, f.result) + " { "
	w.types = append(w.types, f)
	for range w.Intn(3) {
		l := w.binders(w.kinds(3))
		left := f.name
		for _, k := range f.wants {
			left += " " + w.typ(k, l, w.patterns, w.Intn(3))
		}
		l = slices.DeleteFunc(l, func(b binder) bool {
			return !strings.Contains(left+" ", b.name+" ") && !strings.Contains(left, b.name+")")
		})
		s += left + " = " + w.typ(f.result, l, nil, 2) + "; "
	}
	return s + "};"
}

func (w *writer) newClass() string {
	c := known{w.fresh("C"), w.kinds(3), "Constraint"}
	l := w.binders(c.wants)
	s := "class "
	for range w.Intn(3) {
		if len(w.classes) > 0 {
			s += w.class(w.classes[w.Intn(len(w.classes))], l, 1) + " => "
		}
	}
	s += c.name
	for _, b := range l {
		s += " (" + b.name + " : " + b.kind + ")"
	}
	if len(l) > 1 && w.Intn(2) == 0 {
		s += " | " + l[0].name + " -> " + l[1].name
	}
	s += " { "
	for range w.Intn(3) {
		s += w.fresh("m") + " : " + w.typ("Type", l, nil, 2) + "; "
	}
	w.classes = append(w.classes, c)
	return s + "};"
}

// instance writes an instance without definitions; the methods of its class are defined where the program is read.
func (w *writer) instance() string {
	if len(w.classes) == 0 {
		return w.sig()
	}
	c := w.classes[w.Intn(len(w.classes))]
	l := w.binders(w.kinds(3))
	head := c.name
	for _, k := range c.wants {
		head += " " + w.typ(k, l, w.patterns, w.Intn(4))
	}
	l = slices.DeleteFunc(l, func(b binder) bool {
		return !strings.Contains(head+" ", b.name+" ") && !strings.Contains(head, b.name+")")
	})
	s := "instance " + forall(l)
	for range w.Intn(3) {
		other := w.classes[w.Intn(len(w.classes))]
		s += other.name
		for _, k := range other.wants {
			s += " " + w.typ(k, l, w.patterns, 0)
		}
		s += " => "
	}
	return s + head + " { };"
}

func (w *writer) sig() string {
	name := w.fresh("s")
	return name + " : " + w.typ("Type", nil, nil, 3) + "; " + name + " = " + name + ";"
}

// firstDeclarations are those that each program has.
var firstDeclarations = []string{
	"data Nat : Type { Z : Nat; S : Nat -> Nat; };", "class Eq (a) { same : a -> a -> Bool; };", "class Eq a => Ord (a) { below : a -> a -> Bool; };",
}

// next writes any declaration.
func (w *writer) next() string {
	switch w.Intn(7) {
	case 0, 1:
		return w.data()
	case 2:
		return w.family()
	case 3:
		return w.newClass()
	case 4:
		return w.sig()
	}
	return w.instance()
}

// programOf reads declarations, and defines the methods of the instances.
func programOf(declarations []string) (api.Program, bool) {
	l, _, e := syntax.Modules("module M { " + strings.Join(declarations, " ") + " }")
	if e != api.OK {
		return api.Program{}, false
	}
	methods := map[string][]api.Sig{}
	for _, d := range l[0].Decls {
		if d.Op == api.DClass {
			methods[d.Name] = d.Sigs
		}
	}
	for i, d := range l[0].Decls {
		if d.Op != api.DInst {
			continue
		}
		t := d.Type
		for t.Op == api.YAll || t.Op == api.YImp {
			t = t.Args[1]
		}
		for t.Op == api.YApp {
			t = t.Args[0]
		}
		for _, s := range methods[t.S] {
			then := []api.Guard{{Then: api.Expr{Op: api.XInt, N: 1}}}
			l[0].Decls[i].Decls = append(l[0].Decls[i].Decls, api.Decl{Op: api.DBind, Name: s.Name, Alts: []api.Alt{{Rhs: then}}})
		}
	}
	p, e := scope.Resolve(l)
	return p, e == api.OK
}

// grown writes declarations, of which it keeps those that leave the program right, and counts the errors of the others.
func grown(seed int64, count map[api.Errno]int) (*writer, []string) {
	w := newWriter(seed)
	w.classes = []known{{"Eq", []string{"Type"}, ""}, {"Ord", []string{"Type"}, ""}}
	kept := slices.Clone(firstDeclarations)
	for range 14 {
		before := *w
		before.types, before.patterns, before.classes = slices.Clip(w.types), slices.Clip(w.patterns), slices.Clip(w.classes)
		s := w.next()
		e := api.ErrSyntax
		if p, ok := programOf(append(slices.Clone(kept), s)); ok {
			_, _, _, e = Build(p)
		}
		count[e]++
		if e == api.OK {
			kept = append(kept, s)
		} else {
			made := w.made
			*w = before
			w.made = made
		}
	}
	return w, kept
}
