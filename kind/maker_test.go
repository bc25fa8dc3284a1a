package kind

import (
	"math/rand"
	"slices"

	"damask/api"
	"damask/types"
)

// maker makes random types that have a kind that is wanted.
type maker struct {
	*rand.Rand
	env       api.Env
	metas     []api.Meta
	rigids    []api.Rigid
	constants []head
	kinds     []api.Type // kinds that have types mostly
	left      int        // how many parts may still be made
}

// head is something that is there to be applied, how many arguments it needs, how many it can have at first sight, and what is applied in the kind that it has then.
type head struct {
	t, kind     api.Type
	least, most int
	end         api.Type
}

func newHead(t, kind api.Type, least int) head {
	n, left, _ := Arity(kind)
	end, _, _ := types.Spine(left)
	return head{t, kind, least, n, end}
}

func newMaker(seed int64) *maker {
	m := &maker{Rand: rand.New(rand.NewSource(seed)), env: world()}
	for _, name := range []string{"Type", "Constraint", "Int", "Bool", "->", "IO", "TVar", "'True", "Nat", "List", "Vec", "Proxy", "Box", "Fix", "Tagged", "'Z", "'S", "'Nil", "'Cons", "'Proxy", "'Box", "Plus", "Elem", "Same", "Any", "Free", "Eq", "Functor", "Collect", "Sized", "Void"} {
		k, _ := Constant(m.env, name)
		m.constants = append(m.constants, newHead(con(name), k, arity(m.env, name)))
	}
	m.kinds = reads(nil, "Type", "Type", "Type", "Type", "Type", "Type", "Nat", "Nat", "Nat", "Nat", "Bool", "Constraint", "Type -> Type", "Type -> Type", "Type -> Type", "Nat -> Type", "Nat -> Nat", "Type -> Nat -> Type", "List Type", "forall (k : Type). k", "forall (k : Type). k -> Type", "Type -> Constraint", "Box")
	for range 3 {
		m.rigids = append(m.rigids, api.Rigid{Kind: m.kind(nil)})
	}
	for range 6 {
		m.metas = append(m.metas, api.Meta{Kind: m.kind(nil)})
	}
	return m
}

func arity(env api.Env, name string) int {
	for _, f := range env.Families {
		if f.Name == name {
			return f.Arity
		}
	}
	return 0
}

// kind makes a kind in a context: a usual one, a variable or any.
func (m *maker) kind(ctx []api.Type) api.Type {
	depth := max(0, m.Intn(8)-5)
	if depth > 0 || len(ctx) > 0 && m.Intn(3) == 0 {
		if k, ok := m.typ(ctx, con("Type"), depth); ok {
			return k
		}
	}
	return m.kinds[m.Intn(len(m.kinds))]
}

// context makes a context that is right.
func (m *maker) context() []api.Type {
	var ctx []api.Type
	for range m.Intn(5) {
		ctx = append(ctx, m.kind(ctx))
	}
	return ctx
}

// typ makes a type of a kind, if it comes upon one before it has tried too much.
func (m *maker) typ(ctx []api.Type, kind api.Type, depth int) (api.Type, bool) {
	m.left = 300
	x, ok := m.part(ctx, kind, depth)
	return x, ok && types.Check(x) == api.OK
}

func (m *maker) part(ctx []api.Type, kind api.Type, depth int) (api.Type, bool) {
	if m.left--; m.left < 0 {
		return api.Type{}, false
	}
	switch {
	case depth > 0 && types.Same(kind, con("Type")) && m.Intn(3) == 0:
		return m.quantified(ctx, depth-1)
	case depth > 0 && types.Same(kind, con("Constraint")) && m.Intn(3) == 0:
		k := m.kinds[m.Intn(len(m.kinds))]
		a, ok := m.part(ctx, k, depth-1)
		b, ok2 := m.part(ctx, k, depth-1)
		return app(app(con("~"), a), b), ok && ok2
	}
	leaves := depth == 0 || m.Intn(4) == 0
	useful := func(h head) bool { return h.canBe(kind, depth) && (leaves || !types.Same(h.kind, kind)) }
	heads := m.variables(ctx, useful)
	if len(heads) == 0 || m.Intn(2) == 0 {
		heads = append(heads, only(m.constants, useful)...)
	}
	for range min(len(heads), 3) {
		if t, ok := m.applied(ctx, heads[m.Intn(len(heads))], kind, depth); ok {
			return t, true
		}
	}
	return api.Type{}, false
}

// quantified makes a function, a forall or an implication.
func (m *maker) quantified(ctx []api.Type, depth int) (api.Type, bool) {
	switch m.Intn(3) {
	case 0:
		c, ok := m.part(ctx, con("Constraint"), depth)
		b, ok2 := m.part(ctx, con("Type"), depth)
		return imp(c, b), ok && ok2
	case 1:
		a, ok := m.part(ctx, con("Type"), depth)
		b, ok2 := m.part(ctx, con("Type"), depth)
		return fun(a, b), ok && ok2
	}
	k := m.kinds[m.Intn(len(m.kinds))]
	if m.Intn(3) == 0 {
		if made, ok := m.part(ctx, con("Type"), depth); ok {
			k = made
		}
	}
	b, ok := m.part(append(ctx[:len(ctx):len(ctx)], k), con("Type"), depth)
	return all(k, b), ok
}

// variables are those of a context, and metavariables and rigid variables.
func (m *maker) variables(ctx []api.Type, useful func(h head) bool) []head {
	var l []head
	for i, k := range ctx {
		n := len(ctx) - 1 - i
		k, _ = types.Shift(k, n+1, 0)
		l = append(l, newHead(bound(n), k, 0))
	}
	if len(l) == 0 || m.Intn(3) == 0 {
		for i, x := range m.metas {
			l = append(l, newHead(api.Type{Op: api.YMeta, N: i}, x.Kind, 0))
		}
		for i, x := range m.rigids {
			l = append(l, newHead(rigid(i), x.Kind, 0))
		}
	}
	return only(l, useful)
}

func only(l []head, useful func(h head) bool) []head {
	return slices.DeleteFunc(slices.Clone(l), func(h head) bool { return !useful(h) })
}

// canBe reports whether something can get the kind that is wanted, as far as one sees it.
func (h head) canBe(wanted api.Type, depth int) bool {
	if depth == 0 || types.Same(h.kind, wanted) {
		return h.least == 0 && types.Same(h.kind, wanted)
	}
	least, end, _ := Arity(wanted)
	to, _, _ := types.Spine(end)
	return h.end.Op == api.YVar || h.most > least && h.end.Op == to.Op && h.end.N == to.N && h.end.S == to.S
}

// applied applies something until it has the kind that is wanted.
func (m *maker) applied(ctx []api.Type, h head, kind api.Type, depth int) (api.Type, bool) {
	t, k := h.t, h.kind
	for n := 0; n < h.least || !types.Same(k, kind); n++ {
		l, _, _ := types.Arguments(k)
		if k.Op == api.YAll {
			l = k.Args[:1]
		}
		if len(l) == 0 || depth == 0 || n > 5 {
			return api.Type{}, false
		}
		a, ok := m.part(ctx, l[0], depth-1)
		if !ok {
			return api.Type{}, false
		}
		t = app(t, a)
		if k.Op != api.YAll {
			k = k.Args[1]
			continue
		}
		put, e := types.Put(k.Args[1], list(a))
		if e != api.OK {
			return api.Type{}, false
		}
		k = put
	}
	return t, true
}

// spoiled puts another type somewhere into a type.
func (m *maker) spoiled(t api.Type) api.Type {
	if len(t.Args) == 0 || m.Intn(5) == 0 {
		l := append(m.variables(nil, func(head) bool { return true }), head{t: bound(m.Intn(6))}, head{t: rigid(m.Intn(6))}, head{t: con("~")}, head{t: con("Missing")}, head{t: app(con("Plus"), con("'Z"))}, head{t: all(con("Type"), bound(0))})
		l = append(l, m.constants...)
		return l[m.Intn(len(l))].t
	}
	made := api.Type{Op: t.Op, Args: append([]api.Type{}, t.Args...)}
	i := m.Intn(2)
	made.Args[i] = m.spoiled(t.Args[i])
	return made
}
