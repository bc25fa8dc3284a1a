package decl

import (
	"slices"

	"damask/api"
	"damask/kind"
	"damask/leave"
	"damask/nodes"
	"damask/types"
)

func (b *builder) equations(d *api.Decl) {
	f := &b.env.Families[b.place[b.at]]
	for i := range d.Eqs {
		f.Eqs = append(f.Eqs, b.equation(f, &d.Eqs[i]))
	}
}

func (b *builder) equation(f *api.Family, e *api.Eq) api.Axiom {
	names := namesOf(&e.Left)
	head, args, _ := types.Spine(proper(nameless(&e.Left, rigidly(names))))
	most, _, _ := kind.Arity(f.Kind)
	if !isConstant(head, f.Name) || len(args) != f.Arity || len(args) > most || slices.ContainsFunc(args, b.isNoPattern) {
		leave.With(api.ErrForm)
	}
	s := &side{env: &b.env}
	k := s.applied(f.Kind, args)
	right := proper(nameless(&e.Right, rigidly(names)))
	// the variables are rigid here, since a context can only have as many kinds as types may be deep
	if wrong := kind.Check(b.env, nil, s.found, nil, right, k); wrong != api.OK {
		leave.With(wrong)
	}
	return s.axiom(args, right)
}

// namesOf returns the names of the variables in a type, each once, from left to right.
func namesOf(t *api.Type) []string {
	var names []string
	nodes.Visit(*t, func(node api.Type, _ int) {
		if node.Op == api.YName && !slices.Contains(names, node.S) {
			names = append(names, node.S)
		}
	})
	return names
}

// isNoPattern reports whether there is something else in a type than variables, constants that are no families, and applications.
func (b *builder) isNoPattern(t api.Type) bool {
	wrong := false
	nodes.Visit(t, func(node api.Type, _ int) {
		wrong = wrong || node.Op == api.YAll || node.Op == api.YImp || node.Op == api.YCon && b.known[node.S] != nil
	})
	return wrong
}

// side is the left side of an equation, whose variables are rigid: those that have been found have their kinds.
type side struct {
	env   *api.Env
	found []api.Rigid
}

// applied returns what is left of a kind when something of it is applied to arguments.
func (s *side) applied(k api.Type, args []api.Type) api.Type {
	for _, a := range args {
		if k.Op == api.YAll {
			s.argument(a, k.Args[0])
			k = put(k.Args[1], []api.Type{a})
			continue
		}
		l, _, _ := types.Arguments(k)
		if len(l) == 0 {
			leave.With(api.ErrKind)
		}
		s.argument(a, l[0])
		k = k.Args[1]
	}
	return k
}

// argument gives a variable the kind that is wanted, if it is found here; all else must have it.
func (s *side) argument(t, wanted api.Type) {
	if t.Op == api.YRigid && t.N == len(s.found) {
		if l, _ := types.Rigids(wanted); len(l) > 0 {
			leave.With(api.ErrForm)
		}
		s.found = append(s.found, api.Rigid{Kind: wanted})
		return
	}
	if !types.Same(s.kind(t), wanted) {
		leave.With(api.ErrKind)
	}
}

func (s *side) kind(t api.Type) api.Type {
	if t.Op == api.YRigid {
		return s.found[t.N].Kind
	}
	head, args, _ := types.Spine(t)
	if head.Op != api.YCon {
		leave.With(api.ErrForm)
	}
	return s.applied(leave.Must(kind.Constant(*s.env, head.S)), args)
}

// axiom makes bound variables of the rigid ones.
func (s *side) axiom(args []api.Type, right api.Type) api.Axiom {
	var numbers []int
	var made api.Axiom
	for i, r := range s.found {
		numbers = append(numbers, i)
		made.Vars = append(made.Vars, r.Kind)
	}
	bound := func(t api.Type) api.Type { return leave.Must(types.Bind(t, api.YRigid, numbers)) }
	for _, a := range args {
		made.Left = append(made.Left, bound(a))
	}
	made.Right = bound(right)
	return made
}
