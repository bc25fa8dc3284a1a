package decl

import (
	"slices"
	"strconv"
	"strings"
	"testing"

	"damask/api"
	"damask/internal/text"
	"damask/print"
	"damask/scope"
	"damask/syntax"
)

// resolve makes a program of the declarations of the module M.
func resolve(t *testing.T, source string) api.Program {
	t.Helper()
	l, at, e := syntax.Modules("module M { " + source + " }")
	if e != api.OK {
		t.Fatalf("%q: not read at %d", source, at)
	}
	p, e := scope.Resolve(l)
	if e != api.OK {
		t.Fatalf("%q: not resolved: %d", source, e)
	}
	return p
}

// built makes the environment of the declarations of the module M, which must be right.
func built(t *testing.T, source string) (api.Env, api.Program) {
	t.Helper()
	env, p, at, e := Build(resolve(t, source))
	if e != api.OK {
		t.Fatalf("%q: error %d at %d", source, e, at)
	}
	return env, p
}

// show writes a type without the names of the module.
func show(t api.Type) string { return strings.ReplaceAll(text.Show(t), "M.", "") }

func showAll(l []api.Type) string {
	var texts []string
	for _, t := range l {
		texts = append(texts, show(t))
	}
	return "[" + strings.Join(texts, ", ") + "]"
}

// part writes a list, if there is something in it, behind a word.
func showPart(word string, l []api.Type) string {
	if len(l) == 0 {
		return ""
	}
	return " " + word + " " + showAll(l)
}

// local is a name without that of the module.
func local(name string) string { return strings.TrimPrefix(name, "M.") }

func showCon(c api.DataCon) string {
	s := local(c.Name) + " of " + local(c.Data) + showPart("univ", c.Univ) + showPart("exis", c.Exis)
	for _, e := range c.Eqs {
		s += " (" + show(e.Left) + " ~ " + show(e.Right) + ")"
	}
	s += showPart("given", c.Given) + showPart("args", c.Args)
	for _, f := range c.Fields {
		s += " " + local(f)
	}
	return s
}

func showFamily(f api.Family) string {
	s := local(f.Name) + "/" + strconv.Itoa(f.Arity) + " : " + show(f.Kind)
	for _, a := range f.Eqs {
		s += " | " + showAll(a.Vars) + " " + showAll(a.Left) + " = " + show(a.Right)
	}
	return s
}

func showClass(c api.Class) string {
	s := local(c.Name) + " " + showAll(c.Vars) + showPart("supers", c.Supers)
	for _, d := range c.Deps {
		for _, n := range d.From {
			s += " " + strconv.Itoa(n)
		}
		s += " ->"
		for _, n := range d.To {
			s += " " + strconv.Itoa(n)
		}
	}
	for _, x := range c.Sigs {
		s += " {" + local(x.Name) + " : " + show(x.Type) + "}"
	}
	return s
}

func showInstance(in api.Instance) string {
	return local(in.Class) + showPart("vars", in.Vars) + showPart("context", in.Context) + " " + showAll(in.Args)
}

// lines writes what an environment has that is not built in, an entry in a line.
func lines(env api.Env) []string {
	bare := Builtin()
	var l []string
	for _, d := range env.Data[len(bare.Data):] {
		word := "data "
		if d.New {
			word = "newtype "
		}
		s := word + local(d.Name) + " : " + show(d.Kind)
		for _, c := range d.Cons {
			s += " " + local(c)
		}
		l = append(l, s)
	}
	for _, c := range env.Cons[len(bare.Cons):] {
		l = append(l, "con "+showCon(c))
	}
	for _, f := range env.Families {
		l = append(l, "family "+showFamily(f))
	}
	for _, c := range env.Classes {
		l = append(l, "class "+showClass(c))
	}
	for _, in := range env.Instances {
		l = append(l, "instance "+showInstance(in))
	}
	for _, s := range env.Sigs[len(bare.Sigs):] {
		l = append(l, "sig "+local(s.Name)+" : "+show(s.Type))
	}
	return l
}

// entries returns the lines that begin with a word, without it.
func entries(env api.Env, word string) []string {
	var l []string
	for _, s := range lines(env) {
		if rest, ok := strings.CutPrefix(s, word+" "); ok {
			l = append(l, rest)
		}
	}
	return l
}

// compare wants two lists of lines to be the same.
func compare(t *testing.T, what string, got, want []string) {
	t.Helper()
	if !slices.Equal(got, want) {
		t.Errorf("%s:\n  %s\nwanted:\n  %s", what, strings.Join(got, "\n  "), strings.Join(want, "\n  "))
	}
}

// showMethods writes the definitions of an instance as clauses.
func showMethods(t *testing.T, d api.Decl) []string {
	t.Helper()
	m := api.Module{Name: "M", All: true, Decls: d.Decls}
	stripped := strip(m)
	s, e := print.Module(stripped)
	if e != api.OK {
		t.Fatal(d, e)
	}
	var l []string
	for _, line := range strings.Split(strings.TrimSpace(s), "\n") {
		l = append(l, strings.TrimSpace(line))
	}
	return l[1 : len(l)-1]
}

// full reads a type whose constants, if they are not built in, are those of the module M.
func full(s string) api.Type {
	return nameOf(text.Type(s))
}

func nameOf(t api.Type) api.Type {
	types, _ := scope.Builtin()
	made := api.Type{Op: t.Op, N: t.N, S: t.S}
	if bare, ticked := strings.CutPrefix(t.S, "'"); ticked {
		made.S = "'M." + bare
	} else if t.Op == api.YCon && !slices.Contains(types, t.S) {
		made.S = "M." + t.S
	}
	for _, a := range t.Args {
		made.Args = append(made.Args, nameOf(a))
	}
	return made
}
