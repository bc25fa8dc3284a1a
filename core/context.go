package core

import (
	"damask/api"
	"damask/index"
	"damask/kind"
	"damask/leave"
	"damask/rewrite"
	"damask/types"
)

// world is what is declared around a term.
type world struct {
	env       *api.Env
	index     *index.Index
	families  rewrite.Families
	globals   map[string]*api.Type
	terms     map[int]func(c context, t *api.Core) api.Type
	coercions map[int]func(c context, o *api.Co) (a, b api.Type)
}

// context is what is bound around a term: kinds of type variables, pairs of types of coercion variables, types of value variables. Errors leave it.
type context struct {
	*world
	kinds []api.Type
	cos   []pair
	vars  []variable
}

// variable is the type of a value variable, in the context of the kinds that there were when it was bound.
type variable struct {
	t     api.Type
	kinds int
}

// pair is likewise what a coercion variable is between.
type pair struct {
	sides api.Eq
	kinds int
}

// newContext is empty. Of several globals with one name the first one counts.
func newContext(env *api.Env, sigs ...[]api.Sig) context {
	w := &world{env: env, index: index.New(env), families: rewrite.Known(env), globals: map[string]*api.Type{}, terms: termMethods(), coercions: coercionMethods()}
	for _, l := range sigs {
		for i := range l {
			if w.globals[l[i].Name] == nil {
				w.globals[l[i].Name] = &l[i].Type
			}
		}
	}
	return context{world: w}
}

// with adds what a call says that is bound, if it is right.
func (c context) with(kinds []api.Type, cos []api.Eq, vars []api.Type) context {
	for _, k := range kinds {
		c = c.withKind(k)
	}
	for _, e := range cos {
		c = c.withPair(e)
	}
	for _, t := range vars {
		c = c.withChecked(t)
	}
	return c
}

// withKind adds a kind, which must be one. What is bound elsewhere may go on in the same memory, and so lists are copied.
func (c context) withKind(k api.Type) context {
	c.mustBe(k, named("Type"))
	c.kinds = append(c.kinds[:len(c.kinds):len(c.kinds)], k)
	return c
}

// withPair adds a coercion variable between types, which must have one kind.
func (c context) withPair(e api.Eq) context {
	c.mustHaveOneKind(e.Left, e.Right)
	c.cos = append(c.cos[:len(c.cos):len(c.cos)], pair{e, len(c.kinds)})
	return c
}

// withChecked adds a value variable, whose type must be one that values have.
func (c context) withChecked(t api.Type) context {
	c.isOfType(t)
	return c.withVar(t)
}

func (c context) withVar(t api.Type) context {
	c.vars = append(c.vars[:len(c.vars):len(c.vars)], variable{t, len(c.kinds)})
	return c
}

// since returns a type in this context that stands in that of so many kinds.
func (c context) since(t api.Type, kinds int) api.Type { return shifted(t, len(c.kinds)-kinds) }

// kind returns the kind of a type. What is not right with kinds is not right with the core, but for kinds that are too large.
func (c context) kind(t api.Type) api.Type {
	k, e := kind.Kind(*c.env, nil, nil, c.kinds, t)
	mustBeCore(e == api.OK, e)
	return k
}

// mustBeCore leaves if something is not right, with an error that is ErrFull or becomes ErrCore.
func mustBeCore(right bool, e api.Errno) {
	if right {
		return
	}
	if e != api.ErrFull {
		e = api.ErrCore
	}
	leave.With(e)
}

// must leaves if something is not right.
func must(right bool) { mustBeCore(right, api.ErrCore) }

func (c context) mustBe(t, k api.Type) { must(types.Same(c.kind(t), k)) }

func (c context) mustHaveOneKind(a, b api.Type) { c.mustBe(b, c.kind(a)) }

// isOfType reports whether a type is of the kind Type. Another one must be a class constraint: nothing else has values.
func (c context) isOfType(t api.Type) bool {
	k := c.kind(t)
	if isConstant(k, "Type") {
		return true
	}
	must(isConstant(k, "Constraint") && c.isClassConstraint(t))
	return false
}

// isClassConstraint reports whether a type is a class applied to as many arguments as it has variables.
func (c context) isClassConstraint(t api.Type) bool {
	class, _ := c.class(t)
	return class != nil
}

// class returns the class of a class constraint, with its arguments, or nil.
func (c context) class(t api.Type) (*api.Class, []api.Type) {
	head, args, _ := types.Spine(t)
	class := c.index.Classes[head.S]
	if head.Op != api.YCon || class == nil || len(class.Vars) != len(args) {
		return nil, nil
	}
	return class, args
}

// data returns the data type that a type is when it is applied to all its arguments, with these, or nil.
func (c context) data(t api.Type) (*api.DataType, []api.Type) {
	head, args, _ := types.Spine(t)
	data := c.index.Data[head.S]
	if head.Op != api.YCon || data == nil {
		return nil, nil
	}
	if n, _, e := kind.Arity(data.Kind); e != api.OK || n != len(args) {
		return nil, nil
	}
	return data, args
}
