package kind

import (
	"damask/api"
	"damask/leave"
	"damask/types"
)

// walker finds the kinds of types in a context. What it returns shares memory with what it is given.
type walker struct {
	env    *api.Env
	metas  []api.Meta
	rigids []api.Rigid
	ctx    []api.Type
}

// within is the walker behind a forall of a kind.
func (w walker) within(k api.Type) walker {
	w.ctx = append(w.ctx[:len(w.ctx):len(w.ctx)], k)
	return w
}

// must leaves if a type has another kind.
func (w walker) must(t, k api.Type) {
	if !types.Same(w.kind(t, 0), k) {
		leave.With(api.ErrKind)
	}
}

// kind returns the kind of a type that stands before so many arguments: it is they that a family, and `~`, ask for.
func (w walker) kind(t api.Type, arguments int) api.Type {
	switch t.Op {
	case api.YApp:
		if arguments == 0 && isApplied(t, equality) {
			w.must(t.Args[1], w.kind(t.Args[0].Args[1], 0))
			return named("Constraint")
		}
		return w.applied(w.kind(t.Args[0], arguments+1), t.Args[1])
	case api.YAll:
		w.must(t.Args[0], named("Type"))
		w.within(t.Args[0]).must(t.Args[1], named("Type"))
		return named("Type")
	case api.YImp:
		w.must(t.Args[0], named("Constraint"))
		w.must(t.Args[1], named("Type"))
		return named("Type")
	case api.YCon:
		return w.constant(t.S, arguments)
	}
	return w.variable(t)
}

// applied returns the kind of something of the kind f that is applied to an argument.
func (w walker) applied(f, argument api.Type) api.Type {
	k := wanted(f)
	if k == nil {
		leave.With(api.ErrKind)
	}
	w.must(argument, *k)
	if f.Op == api.YAll {
		return leave.Must(types.Put(f.Args[1], []api.Type{argument}))
	}
	return f.Args[1]
}

// constant is asked for `~` only where this has not its two arguments.
func (w walker) constant(name string, arguments int) api.Type {
	if name == equality {
		leave.With(api.ErrForm)
	}
	c, e := find(w.env, name)
	k := leave.Must(c.kind, e)
	if arguments < c.arity {
		leave.With(api.ErrForm)
	}
	return k
}

func (w walker) variable(t api.Type) api.Type {
	switch {
	case t.Op == api.YVar && t.N < len(w.ctx):
		return leave.Must(types.Shift(w.ctx[len(w.ctx)-1-t.N], t.N+1, 0))
	case t.Op == api.YMeta && t.N < len(w.metas):
		return w.metas[t.N].Kind
	case t.Op == api.YRigid && t.N < len(w.rigids):
		return w.rigids[t.N].Kind
	}
	return leave.Must(api.Type{}, api.ErrNone)
}

// wanted returns the kind of the argument that something of the kind f wants, or nil if it wants none: what it becomes is in the second one of the Args of f then.
func wanted(f api.Type) *api.Type {
	switch {
	case f.Op == api.YAll:
		return &f.Args[0]
	case isApplied(f, "->"):
		return &f.Args[0].Args[1]
	}
	return nil
}

// isApplied reports whether a type is a constant applied to two types.
func isApplied(t api.Type, name string) bool {
	return t.Op == api.YApp && t.Args[0].Op == api.YApp && t.Args[0].Args[0].Op == api.YCon && t.Args[0].Args[0].S == name
}
