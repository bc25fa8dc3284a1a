package infer

import (
	"slices"

	"damask/api"
	"damask/free"
	"damask/kind"
	"damask/leave"
	"damask/types"
)

// program is what is known of a program while the types of its definitions are found. Errors leave it.
type program struct {
	decls   []api.Decl
	groups  [][]int
	env     *api.Env
	signed  map[string]*api.Type // the types that DSigs have, with their names
	globals map[string]api.Type
}

// newProgram leaves if a program is none that belongs to an environment, as far as this is seen.
func newProgram(p *api.Program, env *api.Env, sigs []api.Sig) *program {
	made := &program{decls: p.Decls, groups: groups(p), env: env, signed: map[string]*api.Type{}, globals: map[string]api.Type{}}
	for _, s := range env.Sigs {
		made.enter(s)
	}
	instances := 0
	for i := range p.Decls {
		switch d := &p.Decls[i]; d.Op {
		case api.DSig:
			t, found := made.globals[d.Name]
			if !found || !types.Same(t, nameless(&d.Type)) {
				leave.With(api.ErrArg)
			}
			made.signed[d.Name] = &d.Type
		case api.DInst:
			instances++
		}
	}
	if instances > len(env.Instances) || slices.ContainsFunc(sigs, func(s api.Sig) bool { return !isGlobal(env, s.Type) }) {
		leave.With(api.ErrArg)
	}
	for _, s := range sigs {
		made.enter(s)
	}
	return made
}

// enter knows a global. Of several with one name the first one counts.
func (p *program) enter(s api.Sig) {
	if _, found := p.globals[s.Name]; !found {
		p.globals[s.Name] = s.Type
	}
}

// groups returns the groups as they are gone through. All DBinds must be in one, each once.
func groups(p *api.Program) [][]int {
	binds := 0
	for i := range p.Decls {
		if p.Decls[i].Op == api.DBind {
			binds++
		}
	}
	seen := map[int]bool{}
	var l [][]int
	for _, group := range p.Groups {
		for _, i := range group {
			if i < 0 || i >= len(p.Decls) || p.Decls[i].Op != api.DBind || seen[i] {
				leave.With(api.ErrArg)
			}
			seen[i] = true
		}
		l = append(l, divided(p.Decls, group)...)
	}
	if len(seen) != binds {
		leave.With(api.ErrArg)
	}
	return l
}

// divided divides a group in which there may be further DSigs by now.
func divided(decls []api.Decl, group []int) [][]int {
	if len(group) == 1 {
		return [][]int{{group[0]}}
	}
	var l []api.Decl
	for i := range decls {
		if decls[i].Op == api.DSig {
			l = append(l, decls[i])
		}
	}
	before := len(l)
	for _, i := range group {
		l = append(l, decls[i])
	}
	made := free.Groups(l)
	for _, part := range made {
		for n := range part {
			part[n] = group[part[n]-before]
		}
	}
	return made
}

// isGlobal reports whether a type can be that of a global.
func isGlobal(env *api.Env, t api.Type) bool {
	return kind.Check(*env, nil, nil, nil, t, star()) == api.OK
}
