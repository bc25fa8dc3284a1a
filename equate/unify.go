package equate

import (
	"damask/api"
	"damask/leave"
	"damask/types"
)

// call is one call of layer 9, which may only do so much.
type call struct {
	*Worker
	imp   int
	taken int // equations that were taken out of queues
	pairs int // pairs of types that were unified
	left  []api.Want
}

func (w *Worker) begin(imp int) *call { return &call{Worker: w, imp: imp} }

// rules returns those of the implication. Also if they have been found before, the equations that it took count.
func (c *call) rules() finding {
	found := c.found.Find(c.Worker, c.imp, func(imp int) finding { return c.find(imp, most-c.taken) })
	if c.taken += found.taken; c.taken > most {
		leave.With(api.ErrFuel)
	}
	return found
}

// reader makes types normal under the rules as they are now.
func (c *call) reader() reader { return reader{c.Worker, c.rules().rules} }

func (c *call) unify(a, b api.Type) {
	if c.pairs++; c.pairs > most {
		leave.With(api.ErrFuel)
	}
	r := c.reader()
	walk := r.normal
	a, b = walk(a), walk(b)
	switch {
	case types.Same(a, b):
	case a.Op == api.YMeta || b.Op == api.YMeta:
		if m, t := c.chosen(a, b); !c.become(m, t) {
			c.keep(a, b)
		}
	case c.haveParts(a, b):
		c.unify(a.Args[0], b.Args[0])
		c.unify(a.Args[1], b.Args[1])
	case a.Op == api.YAll && b.Op == api.YAll:
		c.unifyForalls(a, b)
	default:
		c.keep(a, b)
	}
}

// keep leaves an equation, which can be too large for a type.
func (c *call) keep(a, b api.Type) {
	c.left = append(c.left, api.Want{Imp: c.imp, Type: equation(a, b)})
}

// haveParts reports whether two types are the same just if their parts are.
func (c *call) haveParts(a, b api.Type) bool {
	switch {
	case a.Op != b.Op:
		return false
	case a.Op == api.YApp:
		return c.known.Of(&a) == nil && c.known.Of(&b) == nil
	}
	return a.Op == api.YImp
}

// unifyForalls puts one new rigid variable for what both bind. None of the metavariables that there are can become it.
func (c *call) unifyForalls(a, b api.Type) {
	c.unify(a.Args[0], b.Args[0])
	variable := []api.Type{c.newRigid(a.Args[0])}
	a = leave.Must(types.Put(a.Args[1], variable))
	b = leave.Must(types.Put(b.Args[1], variable))
	c.unify(a, b)
}

func (c *call) newRigid(kind api.Type) api.Type {
	level := 0
	for i := range c.Metas {
		level = max(level, c.Metas[i].Level)
	}
	for i := range c.Rigids {
		level = max(level, c.Rigids[i].Level)
	}
	if len(c.Rigids) == api.MaxMetas || level == api.MaxMetas {
		leave.With(api.ErrFull)
	}
	c.Rigids = append(c.Rigids, api.Rigid{Kind: c.Resolve(kind), Level: level + 1})
	return api.Type{Op: api.YRigid, N: len(c.Rigids) - 1}
}
