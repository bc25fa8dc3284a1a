package cover

import (
	"damask/api"
	"damask/leave"
	"damask/nodes"
	"damask/types"
)

// signatures returns the types that DSigs have by their names.
func signatures(p *api.Program) map[string]*api.Type {
	signed := map[string]*api.Type{}
	for i := range p.Decls {
		d := &p.Decls[i]
		if d.Op == api.DSig && signed[d.Name] == nil {
			signed[d.Name] = &d.Type
		}
	}
	return signed
}

// leavesMissing reports whether clauses of a type leave something missing.
func leavesMissing(env *api.Env, t *api.Type, alts []api.Alt) bool {
	found, e := leave.Tried(func() [][]api.Pat {
		s := opened(*t)
		var rows [][]api.Pat
		var guarded []bool
		for i := range alts {
			rows = append(rows, alts[i].Pats)
			guarded = append(guarded, hasConditions(alts[i].Rhs))
		}
		columns := s.columns(rows)
		if !isMatrix(s.rigids, s.given, columns, rows, guarded) {
			leave.With(api.ErrArg)
		}
		return missing(newKnowledge(env, s.rigids, s.given, columns...), columns, rows, guarded)
	})
	return e == api.OK && len(found) > 0
}

func hasConditions(rhs []api.Guard) bool {
	for i := range rhs {
		if len(rhs[i].If) > 0 {
			return true
		}
	}
	return false
}

// signature is a type as clauses have it: rigid variables for its foralls, its constraints, and its arguments.
type signature struct {
	rigids    []api.Rigid
	given     []api.Type
	arguments []api.Type
}

// opened leaves if a type has foralls that are not at its beginning.
func opened(t api.Type) signature {
	t = nodes.Replace(t, func(leaf api.Type, _ int) api.Type { return leaf }) // names of foralls are none of a proper type
	if types.Check(t) != api.OK {
		leave.With(api.ErrFull)
	}
	var s signature
	var context []api.Type
	for ; t.Op == api.YAll; t = t.Args[1] {
		s.rigids = append(s.rigids, api.Rigid{Kind: put(t.Args[0], context)})
		context = append(context, api.Type{Op: api.YRigid, N: len(context)})
	}
	nodes.Visit(t, func(node api.Type, _ int) {
		if node.Op == api.YAll {
			leave.With(api.ErrForm)
		}
	})
	for t = put(t, context); t.Op == api.YImp; t = t.Args[1] {
		s.given = append(s.given, t.Args[0])
	}
	s.arguments, _, _ = types.Arguments(t)
	return s
}

// columns returns as many arguments as the first row has patterns, and leaves if there are not so many.
func (s *signature) columns(rows [][]api.Pat) []api.Type {
	if len(rows) == 0 {
		return nil
	}
	if len(rows[0]) > len(s.arguments) {
		leave.With(api.ErrForm)
	}
	return s.arguments[:len(rows[0])]
}
