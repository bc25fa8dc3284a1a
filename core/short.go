package core

import (
	"damask/anew"
	"damask/api"
)

func isTrivial(o *api.Co) bool {
	switch o.Op {
	case api.OVar, api.OAxiom, api.OLeft, api.ORight:
		return false
	}
	return all(o.Args, isTrivial)
}

// short makes the parts of a coercion short before itself. All is in new memory.
func short(o *api.Co) api.Co {
	made := api.Co{Op: o.Op, N: o.N, S: o.S, Types: anew.Types(o.Types), Args: anew.Each(o.Args, short)}
	switch l := made.Args; {
	case o.Op == api.OSym && l[0].Op == api.ORefl:
		return l[0]
	case o.Op == api.OSym && l[0].Op == api.OSym:
		return l[0].Args[0]
	case o.Op == api.OTrans && l[0].Op == api.ORefl:
		return l[1]
	case o.Op == api.OTrans && l[1].Op == api.ORefl:
		return l[0]
	}
	if t := onlyType(&made); isProperType(t) {
		return api.Co{Op: api.ORefl, Types: []api.Type{t}}
	}
	return made
}

// onlyType returns the type that a coercion is between and itself, if it is made of such ones; otherwise it returns none.
func onlyType(o *api.Co) api.Type {
	var l []api.Type
	for i := range o.Args {
		if o.Args[i].Op != api.ORefl {
			return api.Type{}
		}
		l = append(l, o.Args[i].Types[0])
	}
	switch o.Op {
	case api.OApp:
		return api.Type{Op: api.YApp, Args: l}
	case api.OImp:
		return api.Type{Op: api.YImp, Args: l}
	case api.OAll:
		return api.Type{Op: api.YAll, Args: []api.Type{o.Types[0], l[0]}}
	case api.OFam:
		t := named(o.S)
		for _, a := range l {
			t = api.Type{Op: api.YApp, Args: []api.Type{t, a}}
		}
		return t
	}
	return api.Type{}
}
