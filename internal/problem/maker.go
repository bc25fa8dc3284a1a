package problem

import (
	"slices"
	"strconv"

	"damask/api"
	"damask/internal/text"
	"damask/kind"
	"damask/types"
)

// Maker makes problems in the environment World, whose types have the kinds that they are wanted with. It chooses by a function that returns a number from 0 to n - 1.
type Maker struct {
	Choose  func(n int) int
	Env     api.Env
	Problem api.Problem
	foralls bool // types have foralls and implications in them
	heads   []head
}

// head is something that is there to be applied; kinds are known by their texts.
type head struct {
	t     api.Type
	kind  string
	wants []string
}

const star, nat, step, truth, constraint = "Type", "Nat", "Type -> Type", "Bool", "Constraint"

// NewMaker begins with a problem that has rigid variables alone.
func NewMaker(env api.Env, choose func(n int) int, families, foralls bool) *Maker {
	m := &Maker{Choose: choose, Env: env, foralls: foralls}
	for range choose(5) {
		m.Problem.Rigids = append(m.Problem.Rigids, api.Rigid{Kind: m.kind(), Level: choose(4)})
	}
	m.heads = slices.Concat(plain(), classes())
	if families {
		m.heads = append(m.heads, familyTypes()...)
	}
	return m
}

// Open adds metavariables, of which none is solved.
func (m *Maker) Open() {
	for range 2 + m.Choose(7) {
		m.Problem.Metas = append(m.Problem.Metas, api.Meta{Kind: m.kind(), Level: m.Choose(4)})
	}
	m.ofFurtherKinds()
}

// kind makes one that has some types.
func (m *Maker) kind() api.Type {
	return text.Type([]string{star, star, star, star, nat, nat, step}[m.Choose(7)])
}

// ofFurtherKinds makes metavariables whose kinds are metavariables, and applies those of other kinds.
func (m *Maker) ofFurtherKinds() {
	for n := range m.Problem.Metas {
		x := &m.Problem.Metas[n]
		name := "m" + strconv.Itoa(n)
		switch text.Show(x.Kind) {
		case step:
			m.heads = append(m.heads, applying(name, star, star))
		case star:
			if n > 0 && m.Choose(6) == 0 && text.Show(m.Problem.Metas[0].Kind) == star {
				x.Kind = api.Type{Op: api.YMeta}
				m.heads = append(m.heads, applying("Proxy m0 "+name, star))
			}
		}
	}
}

func applying(t, kind string, wants ...string) head { return head{text.Type(t), kind, wants} }

func plain() []head {
	return []head{
		applying("Int", star), applying("Bool", star), applying("Unit", star), applying("'Z", nat), applying("'S", nat, nat), applying("'True", truth), applying("'False", truth),
		applying("List", star, star), applying("List", step), applying("Pair", star, star, star), applying("Pair", step, star), applying("(->)", star, star, star),
		applying("Vec", star, star, nat), applying("Proxy Type", star, star), applying("Proxy Nat", star, nat),
	}
}

func familyTypes() []head {
	return []head{
		applying("Plus", nat, nat, nat), applying("Elem", star, star), applying("Same", truth, star, star),
		applying("Box", step, nat), applying("Box", star, nat, star), applying("Some", star),
	}
}

func classes() []head {
	return []head{
		applying("Eq", constraint, star), applying("Ord", constraint, star), applying("Num", constraint, star), applying("Collect", constraint, star, star), applying("Conv", constraint, star, star),
		applying("Triple", constraint, star, star, star), applying("Functor", constraint, step), applying("Sized", constraint, nat), applying("Apply", constraint, star), applying("Empty", constraint),
	}
}

// Solve solves some metavariables.
func (m *Maker) Solve() {
	for n := range m.Problem.Metas {
		x := &m.Problem.Metas[n]
		if m.Choose(3) > 0 {
			continue
		}
		x.Solved, x.Value = true, m.Type(text.Show(x.Kind), 1+m.Choose(2))
		if _, e := types.Resolve(m.Problem.Metas, text.Type("Type")); e != api.OK {
			x.Solved, x.Value = false, api.Type{}
		}
	}
}

// Imply adds implications in which equations and class constraints are given.
func (m *Maker) Imply() {
	for n := range m.Choose(5) {
		made := api.Imp{Parent: m.Choose(n+1) - 1}
		for range m.Choose(4) {
			made.Given = append(made.Given, m.Constraint())
		}
		m.Problem.Imps = append(m.Problem.Imps, made)
	}
}

// Imp returns an implication, or the outside.
func (m *Maker) Imp() int { return m.Choose(len(m.Problem.Imps)+1) - 1 }

// Want adds wants.
func (m *Maker) Want(n int) {
	for range n {
		m.Problem.Wants = append(m.Problem.Wants, api.Want{Imp: m.Imp(), Type: m.Constraint()})
	}
}

// Constraint makes an equation or a class constraint.
func (m *Maker) Constraint() api.Type {
	if m.Choose(2) == 0 {
		return m.Type(constraint, 1+m.Choose(3))
	}
	a, b := m.Sides()
	return Equation(a, b)
}

// Equation makes a constraint of two types.
func Equation(a, b api.Type) api.Type {
	return applied(applied(api.Type{Op: api.YCon, S: "~"}, a), b)
}

// Sides makes two types of one kind, which have parts in common mostly.
func (m *Maker) Sides() (api.Type, api.Type) {
	k := []string{star, star, star, nat, step}[m.Choose(5)]
	a := m.Type(k, 1+m.Choose(4))
	b := m.Variant(m.Variant(a))
	if m.Choose(6) == 0 {
		b = m.Type(k, 1+m.Choose(3))
	}
	if m.Choose(2) == 0 {
		a, b = b, a
	}
	return a, b
}

// Variant replaces parts of a type by others of their kinds, metavariables and rigid variables mostly.
func (m *Maker) Variant(t api.Type) api.Type {
	if m.Choose(3) == 0 {
		k, e := kind.Kind(m.Env, m.Problem.Metas, m.Problem.Rigids, nil, t)
		if e == api.OK && len(m.candidates(text.Show(k), 0, nil)) > 0 {
			return m.Type(text.Show(k), m.Choose(4)/3)
		}
	}
	made := api.Type{Op: t.Op, N: t.N, S: t.S}
	for i, a := range t.Args {
		if t.Op != api.YAll || i == 1 {
			a = m.Variant(a)
		}
		made.Args = append(made.Args, a)
	}
	return made
}

// Type makes a type of a kind.
func (m *Maker) Type(kind string, depth int) api.Type { return m.part(kind, depth, nil) }

func (m *Maker) part(kind string, depth int, scope []string) api.Type {
	if kind == star && m.foralls && depth > 0 && m.Choose(5) == 0 {
		return m.quantified(depth-1, scope)
	}
	l := m.candidates(kind, depth, scope)
	h := l[m.Choose(len(l))]
	t := h.t
	for _, wanted := range h.wants {
		t = applied(t, m.part(wanted, depth-1, scope))
	}
	return t
}

// candidates are variables, or they and constants. Those that have arguments would be too deep in the end.
func (m *Maker) candidates(kind string, depth int, scope []string) []head {
	l := m.variables(kind, scope)
	if len(l) > 0 && m.Choose(3) == 0 {
		return l
	}
	for _, h := range m.heads {
		if h.kind == kind && (depth > 0 || len(h.wants) == 0) {
			l = append(l, h)
		}
	}
	return l
}

// quantified makes a forall or an implication.
func (m *Maker) quantified(depth int, scope []string) api.Type {
	if m.Choose(2) == 0 {
		c := m.part(constraint, depth, scope)
		return api.Type{Op: api.YImp, Args: []api.Type{c, m.part(star, depth, scope)}}
	}
	k := m.kind()
	body := m.part(star, depth, append(slices.Clip(scope), text.Show(k)))
	return api.Type{Op: api.YAll, Args: []api.Type{k, body}}
}

func (m *Maker) variables(kind string, scope []string) []head {
	var l []head
	add := func(op, n int, k string) {
		if k == kind {
			l = append(l, head{t: api.Type{Op: op, N: n}})
		}
	}
	for i, k := range scope {
		add(api.YVar, len(scope)-1-i, k)
	}
	for n, x := range m.Problem.Metas {
		add(api.YMeta, n, text.Show(x.Kind))
	}
	for n, x := range m.Problem.Rigids {
		add(api.YRigid, n, text.Show(x.Kind))
	}
	return l
}

func applied(f, a api.Type) api.Type { return api.Type{Op: api.YApp, Args: []api.Type{f, a}} }
