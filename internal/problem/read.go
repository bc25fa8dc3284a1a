// Package problem reads problems of constraints from texts, writes what has changed in them, and makes random ones, for the tests of the layers that unify types and solve constraints.
package problem

import (
	"strconv"
	"strings"

	"damask/api"
	"damask/internal/text"
)

// Read reads the parts of a problem, each with a semicolon behind it:
//
//	meta Type @1 = List m2    with its level, if that is not 0, and its value, if it has one
//	rigid Nat @1
//	imp 0: Eq r0, r0 ~ Int    with its parent, and what is given
//	want 1: Eq m0             in an implication
func Read(source string) api.Problem {
	var p api.Problem
	for part := range strings.SplitSeq(source, ";") {
		word, rest, _ := strings.Cut(strings.TrimSpace(part), " ")
		switch word {
		case "":
		case "meta":
			p.Metas = append(p.Metas, meta(rest))
		case "rigid":
			m := meta(rest)
			p.Rigids = append(p.Rigids, api.Rigid{Kind: m.Kind, Level: m.Level})
		case "imp":
			parent, given := numbered(rest)
			p.Imps = append(p.Imps, api.Imp{Parent: parent, Given: given})
		case "want":
			in, l := numbered(rest)
			p.Wants = append(p.Wants, api.Want{Imp: in, Type: l[0]})
		default:
			panic(word + ": no part of a problem")
		}
	}
	return p
}

func meta(source string) api.Meta {
	var m api.Meta
	source, value, solved := strings.Cut(source, " = ")
	if solved {
		m.Solved, m.Value = true, text.Type(value)
	}
	kind, level, found := strings.Cut(source, " @")
	if found {
		m.Level = number(level)
	}
	m.Kind = text.Type(kind)
	return m
}

func numbered(source string) (int, []api.Type) {
	n, l, _ := strings.Cut(source, ":")
	var made []api.Type
	for t := range strings.SplitSeq(l, ",") {
		if strings.TrimSpace(t) != "" {
			made = append(made, text.Type(t))
		}
	}
	return number(n), made
}

func number(s string) int {
	n, e := strconv.Atoi(strings.TrimSpace(s))
	if e != nil {
		panic(s + ": no number")
	}
	return n
}
