package problem

import (
	"strconv"
	"strings"

	"damask/api"
	"damask/internal/text"
)

// Changes writes which metavariables have become what, or have another level, and the rigid variables that are new.
func Changes(before, after api.Problem) string {
	var l []string
	for n, m := range after.Metas {
		old, name := before.Metas[n], "m"+strconv.Itoa(n)
		if m.Solved && !old.Solved {
			l = append(l, name+" = "+text.Show(m.Value))
		}
		if m.Level != old.Level {
			l = append(l, name+level(m.Level))
		}
	}
	for n, r := range after.Rigids[len(before.Rigids):] {
		l = append(l, "r"+strconv.Itoa(len(before.Rigids)+n)+" : "+text.Show(r.Kind)+level(r.Level))
	}
	return strings.Join(l, ", ")
}

func level(n int) string { return " @" + strconv.Itoa(n) }

// Wants writes wants, each with its implication.
func Wants(wants []api.Want) string {
	var l []string
	for _, w := range wants {
		l = append(l, strconv.Itoa(w.Imp)+": "+text.Show(w.Type))
	}
	return strings.Join(l, ", ")
}

// Types writes types.
func Types(types []api.Type) string {
	var l []string
	for _, t := range types {
		l = append(l, text.Show(t))
	}
	return strings.Join(l, ", ")
}

// Rules writes rules.
func Rules(rules []api.Eq) string {
	var l []string
	for _, r := range rules {
		l = append(l, text.Show(r.Left)+" to "+text.Show(r.Right))
	}
	return strings.Join(l, ", ")
}

// Show writes a whole problem, for messages.
func Show(p api.Problem) string {
	var s strings.Builder
	for _, m := range p.Metas {
		s.WriteString("meta " + text.Show(m.Kind) + level(m.Level))
		if m.Solved {
			s.WriteString(" = " + text.Show(m.Value))
		}
		s.WriteString(";\n")
	}
	for _, r := range p.Rigids {
		s.WriteString("rigid " + text.Show(r.Kind) + level(r.Level) + ";\n")
	}
	for _, i := range p.Imps {
		s.WriteString("imp " + strconv.Itoa(i.Parent) + ": " + Types(i.Given) + ";\n")
	}
	for _, w := range p.Wants {
		s.WriteString("want " + Wants([]api.Want{w}) + ";\n")
	}
	return s.String()
}

// Spoil changes all memory of a problem and of further wants, to see who shares it.
func Spoil(p api.Problem, wants []api.Want) {
	for _, m := range p.Metas {
		text.Spoil(m.Kind)
		text.Spoil(m.Value)
	}
	for _, r := range p.Rigids {
		text.Spoil(r.Kind)
	}
	for _, i := range p.Imps {
		for _, g := range i.Given {
			text.Spoil(g)
		}
		clear(i.Given)
	}
	for _, w := range append(p.Wants, wants...) {
		text.Spoil(w.Type)
	}
	clear(p.Metas)
	clear(p.Rigids)
	clear(p.Imps)
	clear(p.Wants)
	clear(wants)
}
