package kind

import (
	"damask/api"
	"damask/types"
)

// An opener finds kinds in another way: every variable becomes a rigid variable as soon as it is bound, so that there is no context, and nothing is ever shifted.
type opener struct {
	*maker
	opened []api.Type // the kinds of the rigid variables from firstOpened on
}

const firstOpened = 1000

// oracle makes bound variables again of the rigid variables in the kind.
func oracle(m *maker, ctx []api.Type, t api.Type) (api.Type, api.Errno) {
	o := &opener{maker: m}
	var opened []api.Type
	var numbers []int
	for _, k := range ctx {
		k, _ = types.Put(k, opened)
		r := o.open(k)
		opened, numbers = append(opened, r), append(numbers, r.N)
	}
	t, _ = types.Put(t, opened)
	k, e := o.kind(t)
	if e != api.OK {
		return api.Type{}, e
	}
	k, _ = types.Bind(k, api.YRigid, numbers)
	return k, api.OK
}

func (o *opener) open(k api.Type) api.Type {
	o.opened = append(o.opened, k)
	return rigid(firstOpened + len(o.opened) - 1)
}

func (o *opener) kind(t api.Type) (api.Type, api.Errno) {
	h, l, _ := types.Spine(t)
	if h.S == "~" {
		return o.equation(l)
	}
	k, e := o.head(h)
	if e == api.OK && len(l) < arity(o.env, h.S) {
		e = api.ErrForm
	}
	for _, a := range l {
		if e != api.OK {
			return api.Type{}, e
		}
		k, e = o.applied(k, a)
	}
	return k, e
}

func (o *opener) equation(l []api.Type) (api.Type, api.Errno) {
	if len(l) != 2 {
		return api.Type{}, api.ErrForm
	}
	k, e := o.kind(l[0])
	if e == api.OK {
		e = o.check(l[1], k)
	}
	return con("Constraint"), e
}

func (o *opener) head(h api.Type) (api.Type, api.Errno) {
	switch {
	case h.Op == api.YCon:
		return Constant(o.env, h.S)
	case h.Op == api.YMeta && h.N < len(o.metas):
		return o.metas[h.N].Kind, api.OK
	case h.Op == api.YRigid && h.N < len(o.rigids):
		return o.rigids[h.N].Kind, api.OK
	case h.Op == api.YRigid && h.N >= firstOpened:
		return o.opened[h.N-firstOpened], api.OK
	case h.Op == api.YAll:
		e := o.check(h.Args[0], con("Type"))
		if e == api.OK {
			body, _ := types.Put(h.Args[1], list(o.open(h.Args[0])))
			e = o.check(body, con("Type"))
		}
		return con("Type"), e
	case h.Op == api.YImp:
		e := o.check(h.Args[0], con("Constraint"))
		if e == api.OK {
			e = o.check(h.Args[1], con("Type"))
		}
		return con("Type"), e
	}
	return api.Type{}, api.ErrNone
}

func (o *opener) applied(k, a api.Type) (api.Type, api.Errno) {
	if k.Op == api.YAll {
		if e := o.check(a, k.Args[0]); e != api.OK {
			return api.Type{}, e
		}
		return types.Put(k.Args[1], list(a))
	}
	h, l, _ := types.Spine(k)
	if h.S != "->" || len(l) != 2 {
		return api.Type{}, api.ErrKind
	}
	return l[1], o.check(a, l[0])
}

func (o *opener) check(t, k api.Type) api.Errno {
	found, e := o.kind(t)
	if e == api.OK && !types.Same(found, k) {
		return api.ErrKind
	}
	return e
}
