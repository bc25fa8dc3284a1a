package infer

import (
	"math/rand"
	"strconv"
	"strings"
)

// simple is a type without foralls: a constant applied to types. Small constants are variables of a definition.
type simple struct {
	name string
	args []simple
}

func (s simple) text() string {
	switch {
	case s.name == "->":
		return "(" + s.args[0].text() + " -> " + s.args[1].text() + ")"
	case len(s.args) == 0:
		return s.name
	}
	text := s.name
	for _, a := range s.args {
		text += " " + a.text()
	}
	return "(" + text + ")"
}

func function2(a, b simple) simple { return simple{"->", []simple{a, b}} }

// variable is one that is bound, with its type; that of an earlier definition is general.
type variable struct {
	name    string
	t       simple
	general bool
}

// maker makes random definitions that mostly have types.
type maker struct {
	*rand.Rand
	names int
	known []variable
	slips int // one in so many expressions has another type than is wanted
}

const plainWorld = `
	data List : Type -> Type { Nil : List a; Cons : a -> List a -> List a; };
	data Pair : Type -> Type -> Type { Pair : a -> b -> Pair a b; };
	data Maybe : Type -> Type { None : Maybe a; Some : { some : a } -> Maybe a; };
`

func newMaker(seed int64, slips int) *maker {
	return &maker{Rand: rand.New(rand.NewSource(seed)), slips: slips}
}

func (m *maker) name() string {
	m.names++
	return "x" + strconv.Itoa(m.names)
}

func (m *maker) simple(depth int) simple {
	n := m.Intn(12)
	if depth <= 0 {
		n = m.Intn(6)
	}
	switch n {
	case 0, 1:
		return simple{name: "Int"}
	case 2, 3:
		return simple{name: "Bool"}
	case 4:
		return simple{name: "a"}
	case 5:
		return simple{name: "b"}
	case 6, 7:
		return simple{"List", []simple{m.simple(depth - 1)}}
	case 8:
		return simple{"Maybe", []simple{m.simple(depth - 1)}}
	case 9:
		return simple{"Pair", []simple{m.simple(depth - 1), m.simple(depth - 1)}}
	}
	return function2(m.simple(depth-1), m.simple(depth-1))
}

// module makes a module with some definitions, which can use each other.
func (m *maker) module(definitions int) string {
	var s strings.Builder
	s.WriteString(plainWorld)
	var all []variable
	for i := range definitions {
		all = append(all, variable{name: "f" + strconv.Itoa(i), t: m.simple(3)})
	}
	for i := range all {
		m.known = nil
		for j, v := range all {
			if j < i || m.Intn(6) == 0 {
				v.general = j < i
				m.known = append(m.known, v)
			}
		}
		s.WriteString(m.definition(all[i], 4))
	}
	return s.String()
}

// definition makes clauses, with as many patterns as there are arguments, or fewer.
func (m *maker) definition(v variable, depth int) string {
	var columns []simple
	for t := v.t; ; t = t.args[1] {
		if t.name == "->" && m.Intn(4) > 0 {
			columns = append(columns, t.args[0])
			continue
		}
		clauses := 1
		if len(columns) > 0 {
			clauses += m.Intn(3)
		}
		text := ""
		for range clauses {
			text += m.clause(v.name, columns, t, depth)
		}
		return text
	}
}

func (m *maker) clause(name string, columns []simple, t simple, depth int) string {
	defer m.forget(len(m.known))
	text := name
	for _, c := range columns {
		text += " " + m.pattern(c, 2)
	}
	return text + m.values(" = ", t, depth) + ";\n"
}

// values makes what is behind patterns, with a sign before each value.
func (m *maker) values(sign string, t simple, depth int) string {
	defer m.forget(len(m.known))
	where := ""
	if m.Intn(6) == 0 {
		where = " where { " + m.locals(depth-1) + "}"
	}
	if m.Intn(4) > 0 {
		return sign + m.expr(t, depth) + where
	}
	text := ""
	for range 1 + m.Intn(2) {
		text += " | " + m.operand(simple{name: "Bool"}, depth-1) + sign + m.expr(t, depth-1)
	}
	return text + where
}

func (m *maker) forget(known int) { m.known = m.known[:known:known] }

// locals makes local definitions, which stay known.
func (m *maker) locals(depth int) string {
	var l []variable
	for range 1 + m.Intn(2) {
		l = append(l, variable{name: m.name(), t: m.simple(2)})
	}
	m.known = append(m.known, l...)
	text := ""
	for _, v := range l {
		text += m.definition(v, depth)
	}
	return text
}

func (m *maker) pattern(t simple, depth int) string {
	if m.Intn(m.slips) == 0 {
		t = m.simple(1)
	}
	n := m.Intn(8)
	switch {
	case n == 0:
		return "_"
	case n == 1:
		return "!(" + m.pattern(t, depth-1) + ")"
	case n == 2:
		return "~(" + m.pattern(t, depth-1) + ")"
	case n == 3:
		name := m.name()
		m.known = append(m.known, variable{name: name, t: t})
		return name + "@(" + m.pattern(t, depth-1) + ")"
	case n == 4 || depth <= 0 || t.name == "->" || t.name == "a" || t.name == "b":
		name := m.name()
		m.known = append(m.known, variable{name: name, t: t})
		return name
	}
	switch t.name {
	case "Int":
		return strconv.Itoa(m.Intn(3))
	case "Bool":
		return m.pick("True", "False")
	case "List":
		if m.Intn(3) == 0 {
			return "Nil"
		}
		return "(Cons " + m.pattern(t.args[0], depth-1) + " " + m.pattern(t, depth-1) + ")"
	case "Maybe":
		if m.Intn(3) == 0 {
			return "None"
		}
		return "(Some " + m.pattern(t.args[0], depth-1) + ")"
	}
	return "(Pair " + m.pattern(t.args[0], depth-1) + " " + m.pattern(t.args[1], depth-1) + ")"
}

func (m *maker) pick(l ...string) string { return l[m.Intn(len(l))] }

// operand makes an expression in parentheses.
func (m *maker) operand(t simple, depth int) string { return "(" + m.expr(t, depth) + ")" }

func (m *maker) expr(t simple, depth int) string {
	if m.Intn(m.slips) == 0 {
		t = m.simple(2)
	}
	if depth <= 0 || m.Intn(6) == 0 {
		return m.leaf(t)
	}
	switch n := m.Intn(11); {
	case n == 0:
		return "if " + m.expr(simple{name: "Bool"}, depth-1) + " then " + m.expr(t, depth-1) + " else " + m.expr(t, depth-1)
	case n == 1:
		return m.cases(t, depth)
	case n == 2:
		defer m.forget(len(m.known))
		return "let { " + m.locals(depth-1) + "} in " + m.expr(t, depth-1)
	case n == 3:
		a := m.simple(1)
		return m.operand(function2(a, t), depth-1) + " " + m.operand(a, depth-1)
	case n == 4 && (t.name == "Maybe"):
		return m.pick("Some { some = "+m.expr(t.args[0], depth-1)+" }", m.operand(t, depth-1)+" { some = "+m.expr(t.args[0], depth-1)+" }")
	case n == 5:
		return "some " + m.operand(simple{"Maybe", []simple{t}}, depth-1)
	case n <= 7:
		return m.applied(t, depth)
	}
	return m.built(t, depth)
}

func (m *maker) cases(t simple, depth int) string {
	of := m.simple(1)
	text := "case " + m.expr(of, depth-1) + " of { "
	for range 1 + m.Intn(2) {
		known := len(m.known)
		text += m.pattern(of, 2) + m.values(" -> ", t, depth-1) + "; "
		m.forget(known)
	}
	return text + "}"
}

// applied makes a variable whose type ends in the one that is wanted, with arguments.
func (m *maker) applied(t simple, depth int) string {
	for _, i := range m.Perm(len(m.known)) {
		v := m.known[i]
		of := v.t
		if v.general {
			of = putSimple(of, map[string]simple{"a": m.simple(1), "b": m.simple(1)})
		}
		text := v.name
		for ; of.text() != t.text() && of.name == "->"; of = of.args[1] {
			text += " " + m.operand(of.args[0], depth-1)
		}
		if of.text() == t.text() {
			return text
		}
	}
	return m.built(t, depth)
}

func putSimple(t simple, l map[string]simple) simple {
	if s, ok := l[t.name]; ok {
		return s
	}
	made := simple{name: t.name}
	for _, a := range t.args {
		made.args = append(made.args, putSimple(a, l))
	}
	return made
}

func (m *maker) built(t simple, depth int) string {
	switch t.name {
	case "Int":
		return m.pick("add ", "mul ", "sub ") + m.operand(t, depth-1) + " " + m.operand(t, depth-1)
	case "Bool":
		return m.pick("eq ", "lt ") + m.operand(simple{name: "Int"}, depth-1) + " " + m.operand(simple{name: "Int"}, depth-1)
	case "List":
		return "Cons " + m.operand(t.args[0], depth-1) + " " + m.operand(t, depth-1)
	case "Maybe":
		return "Some " + m.operand(t.args[0], depth-1)
	case "Pair":
		return "Pair " + m.operand(t.args[0], depth-1) + " " + m.operand(t.args[1], depth-1)
	case "->":
		defer m.forget(len(m.known))
		p := m.pattern(t.args[0], 1)
		return "\\ " + p + " -> " + m.expr(t.args[1], depth-1)
	}
	return m.leaf(t)
}

// leaf makes something small; of a variable's type there is only a failure, if nothing is known.
func (m *maker) leaf(t simple) string {
	for _, i := range m.Perm(len(m.known)) {
		if v := m.known[i]; v.t.text() == t.text() {
			return v.name
		}
	}
	switch t.name {
	case "Int":
		return strconv.Itoa(m.Intn(5))
	case "Bool":
		return m.pick("True", "False")
	case "List":
		return "Nil"
	case "Maybe":
		return "None"
	case "->":
		defer m.forget(len(m.known))
		name := m.name()
		m.known = append(m.known, variable{name: name, t: t.args[0]})
		return "\\" + name + " -> " + m.leaf(t.args[1])
	case "Pair":
		return "Pair (" + m.leaf(t.args[0]) + ") (" + m.leaf(t.args[1]) + ")"
	}
	return "throw 1"
}
