package print

import (
	"strconv"

	"damask/api"
)

// How strongly the text of a type holds together, and how strongly it must where it stands.
const (
	anyType = iota
	equation
	application
	atom
)

// typeIn writes a type with parentheses if it is too weak for its place.
func typeIn(t api.Type, place int) string {
	text, strength := typeText(t)
	return enclosed(text, strength < place)
}

func typeText(t api.Type) (string, int) {
	switch t.Op {
	case api.YAll:
		binders, body := foralls(t)
		return words(forallText(binders), typeIn(body, anyType)), anyType
	case api.YImp:
		return words(typeIn(t.Args[0], equation), "=>", typeIn(t.Args[1], anyType)), anyType
	case api.YApp:
		return applicationText(t.Args[0], t.Args[1])
	}
	return enclosed(t.S, t.S == "->" || t.S == "~"), atom
}

func applicationText(f, right api.Type) (string, int) {
	if f.Op == api.YApp && f.Args[0].Op == api.YCon {
		left := typeIn(f.Args[1], application)
		switch f.Args[0].S {
		case "->":
			return words(left, "->", typeIn(right, anyType)), anyType
		case "~":
			return words(left, "~", typeIn(right, application)), equation
		}
	}
	return words(typeIn(f, application), typeIn(right, atom)), application
}

// foralls returns the variables of the foralls that follow each other at the beginning of a type, and the rest of it.
func foralls(t api.Type) ([]api.Binder, api.Type) {
	var l []api.Binder
	for t.Op == api.YAll {
		l = append(l, api.Binder{Name: t.S, Kind: t.Args[0]})
		t = t.Args[1]
	}
	return l, t
}

func forallText(l []api.Binder) string {
	if len(l) == 0 {
		return ""
	}
	return words("forall", list(l, " ", binderText)) + "."
}

func binderText(b api.Binder) string {
	if b.Kind.Op == api.YCon && b.Kind.S == "Type" {
		return b.Name
	}
	return "(" + sigText(b.Name, b.Kind) + ")"
}

func sigText(name string, t api.Type) string { return words(name, ":", typeIn(t, anyType)) }

// named gives names to all variables of a proper type, with so many foralls around it.
func named(t api.Type, around int) api.Type {
	switch t.Op {
	case api.YVar:
		return name(variableName(t.N, around))
	case api.YRigid:
		return name("rigid" + strconv.Itoa(t.N))
	case api.YMeta:
		return name("meta" + strconv.Itoa(t.N))
	case api.YAll:
		body := named(t.Args[1], around+1)
		return api.Type{Op: api.YAll, S: boundName(around), Args: []api.Type{named(t.Args[0], around), body}}
	case api.YApp, api.YImp:
		return api.Type{Op: t.Op, Args: []api.Type{named(t.Args[0], around), named(t.Args[1], around)}}
	}
	return t
}

func name(s string) api.Type { return api.Type{Op: api.YName, S: s} }

func variableName(n, around int) string {
	if n >= around {
		return "free" + strconv.Itoa(n-around)
	}
	return boundName(around - 1 - n)
}

// boundName is the name of the variable of a forall with so many foralls around it.
func boundName(around int) string {
	const letters = "abcdefghijklmnopqrstuvwxyz"
	letter := letters[around%len(letters)]
	if around < len(letters) {
		return string(letter)
	}
	return string(letter) + strconv.Itoa(around/len(letters))
}
