// Package text reads types and families from texts, and writes types, for the tests of the layers in which variables have no names.
package text

import (
	"slices"
	"strconv"
	"strings"

	"damask/api"
	"damask/print"
	"damask/syntax"
)

// Type reads a type: its small names are those of variables, the last one that of the variable 0; m0 is the metavariable 0, r0 the rigid variable 0, and v0 the variable 0 outside of the names.
func Type(text string, names ...string) api.Type {
	t, at, e := syntax.Type(text)
	if e != api.OK {
		panic(text + ": not read at " + strconv.Itoa(at))
	}
	return Nameless(t, names)
}

// Types reads types, each with the same names.
func Types(names []string, texts ...string) []api.Type {
	var l []api.Type
	for _, text := range texts {
		l = append(l, Type(text, names...))
	}
	return l
}

// Show writes a type, or says that it is not proper.
func Show(t api.Type) string {
	text, e := print.Closed(t)
	if e != api.OK {
		return "not proper"
	}
	return text
}

// Deep is a type that is nested so many nodes deep.
func Deep(n int) api.Type {
	t := api.Type{Op: api.YCon, S: "A"}
	for ; n > 1; n-- {
		t = api.Type{Op: api.YApp, Args: []api.Type{t, {Op: api.YCon, S: "A"}}}
	}
	return t
}

// Wide is a type with 2^n leaves.
func Wide(n int) api.Type {
	if n == 0 {
		return api.Type{Op: api.YCon, S: "A"}
	}
	return api.Type{Op: api.YApp, Args: []api.Type{Wide(n - 1), Wide(n - 1)}}
}

// Spoil changes all nodes of a type, to see who shares memory with it; one that stands in it twice would be found changed already.
func Spoil(t api.Type) {
	for i := range t.Args {
		if t.Args[i].Op == 0 {
			panic("memory is shared within a result")
		}
		Spoil(t.Args[i])
		t.Args[i] = api.Type{}
	}
}

// Families reads the families and the data types of a module, whose names stay as they are. All variables of equations have the kind Type.
func Families(source string) api.Env {
	l, at, e := syntax.Modules("module M { " + source + " }")
	if e != api.OK {
		panic(source + ": not read at " + strconv.Itoa(at))
	}
	var env api.Env
	for _, d := range l[0].Decls {
		k := Nameless(d.Type, nil)
		if d.Op == api.DFamily {
			env.Families = append(env.Families, family(d, k))
		} else {
			env.Data = append(env.Data, api.DataType{Name: d.Name, Kind: k})
		}
	}
	return env
}

// family has as many arguments as its first equation, or as the functions and foralls of its kind are.
func family(d api.Decl, k api.Type) api.Family {
	f := api.Family{Name: d.Name, Kind: k, Arity: strings.Count(Show(k), "->")}
	for _, e := range d.Eqs {
		names, _ := syntax.Names(e.Left)
		a := api.Axiom{Right: Nameless(e.Right, names)}
		for range names {
			a.Vars = append(a.Vars, api.Type{Op: api.YCon, S: "Type"})
		}
		for left := Nameless(e.Left, names); left.Op == api.YApp; left = left.Args[0] {
			a.Left = slices.Insert(a.Left, 0, left.Args[1])
		}
		f.Arity = len(a.Left)
		f.Eqs = append(f.Eqs, a)
	}
	return f
}

// Nameless makes the variables of a type that have names those of a context.
func Nameless(t api.Type, names []string) api.Type {
	switch t.Op {
	case api.YName:
		return variable(t.S, names)
	case api.YAll:
		body := Nameless(t.Args[1], append(slices.Clone(names), t.S))
		return api.Type{Op: t.Op, Args: []api.Type{Nameless(t.Args[0], names), body}}
	}
	made := api.Type{Op: t.Op, N: t.N, S: t.S}
	for _, a := range t.Args {
		made.Args = append(made.Args, Nameless(a, names))
	}
	return made
}

func variable(name string, names []string) api.Type {
	for i, n := range slices.Backward(names) {
		if n == name {
			return api.Type{Op: api.YVar, N: len(names) - 1 - i}
		}
	}
	n, e := strconv.Atoi(name[1:])
	op := strings.Index("v    mr", name[:1]) + 1
	if e != nil || op < api.YVar {
		panic(name + ": no such variable")
	}
	if op == api.YVar {
		n += len(names)
	}
	return api.Type{Op: op, N: n}
}
