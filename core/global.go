package core

import (
	"damask/api"
	"damask/leave"
	"damask/types"
)

// checked returns the number of globals that are right, or the position of the first one that is not. What is not proper comes first.
func checked(p *api.CoreProgram) (int, api.Errno) {
	if len(p.Globals) > maxGlobals {
		return 0, api.ErrArg
	}
	var sigs []api.Sig
	for i := range p.Globals {
		g := &p.Globals[i]
		if !isProperType(g.Type) || !isProper(&g.Term) {
			return i, api.ErrArg
		}
		sigs = append(sigs, api.Sig{Name: g.Name, Type: g.Type})
	}
	c := newContext(&p.Env, sigs, p.Env.Sigs)
	known := newContext(&p.Env, p.Env.Sigs).globals
	before := map[string]bool{}
	for i := range p.Globals {
		g := &p.Globals[i]
		_, e := leave.Tried(func() bool {
			must(!before[g.Name])
			must(known[g.Name] == nil || types.Same(*known[g.Name], g.Type))
			c.mustBeGlobal(g.Type)
			c.mustHave(&g.Term, g.Type)
			return true
		})
		if e != api.OK {
			return i, e
		}
		before[g.Name] = true
	}
	return len(p.Globals), api.OK
}

// mustBeGlobal leaves if a type is not one that has values, with foralls and constraints around it. Where it is one, it is closed, since other variables have no kinds.
func (c context) mustBeGlobal(t api.Type) {
	for {
		switch t.Op {
		case api.YAll:
			c = c.withKind(t.Args[0])
		case api.YImp:
			c.mustBe(t.Args[0], named("Constraint"))
		default:
			c.isOfType(t)
			return
		}
		t = t.Args[1]
	}
}
