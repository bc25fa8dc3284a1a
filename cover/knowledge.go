package cover

import (
	"iter"
	"slices"

	"damask/api"
	"damask/equate"
	"damask/index"
	"damask/leave"
	"damask/types"
)

// most is how many matrices, or types of values, may be looked at in one call.
const most = api.MaxFuel / 20

// search is what one call looks in, and how much it has looked at.
type search struct {
	env    *api.Env
	index  *index.Index
	looked int
	steps  int
}

func (s *search) look() {
	s.looked++
	mustBeFew(s.looked, most, api.ErrFuel)
}

// step counts how often the next one of several types is gone to, also where it has been looked at before: there can be very many ways to nothing.
func (s *search) step() {
	s.steps++
	mustBeFew(s.steps, api.MaxFuel, api.ErrFuel)
}

// knowledge is what is known where patterns are looked at, by the constructors around them and before them. Errors leave it.
type knowledge struct {
	*search
	rigids []api.Rigid
	given  []api.Type
	worker *equate.Worker // of a problem with one implication
	looks  []*look
}

// newKnowledge begins a search for types where some constraints are given.
func newKnowledge(env *api.Env, rigids []api.Rigid, given []api.Type, l ...api.Type) *knowledge {
	mustBeKnown(rigids, given, l)
	return (&search{env: env, index: index.New(env)}).knowing(rigids, given)
}

func (s *search) knowing(rigids []api.Rigid, given []api.Type) *knowledge {
	p := api.Problem{Rigids: rigids, Imps: []api.Imp{{Parent: equate.Outside, Given: given}}}
	return &knowledge{search: s, rigids: rigids, given: given, worker: equate.New(s.env, &p)}
}

func (k *knowledge) normal(t api.Type) api.Type { return k.worker.Normal(0, t) }

// data returns the data type that a normal type is, with its arguments, or nil.
func (k *knowledge) data(t api.Type) (*api.DataType, []api.Type) {
	head, args, _ := types.Spine(t)
	if head.Op != api.YCon {
		return nil, nil
	}
	return k.index.Data[head.S], args
}

// option is a constructor that a value can have, with what its variables stand for and what is known within.
type option struct {
	con     *api.DataCon
	context []api.Type
	known   *knowledge
}

// args returns the types of what is in a value with the constructor.
func (o *option) args() []api.Type {
	var l []api.Type
	for _, a := range o.con.Args {
		l = append(l, put(a, o.context))
	}
	return l
}

// possible are the constructors that values of a normal type can have, in their order.
func (k *knowledge) possible(t api.Type) iter.Seq[option] {
	return func(yield func(option) bool) {
		data, args := k.data(t)
		if data == nil {
			return
		}
		for _, name := range data.Cons {
			if o, ok := k.with(k.index.Cons[name], args); ok && !yield(o) {
				return
			}
		}
	}
}

// with returns the option of a constructor, if what it says can be.
func (k *knowledge) with(c *api.DataCon, args []api.Type) (option, bool) {
	if c == nil || len(c.Univ) != len(args) {
		return option{}, false
	}
	context, rigids := slices.Clone(args), k.rigids[:len(k.rigids):len(k.rigids)]
	for _, e := range c.Exis {
		context = append(context, api.Type{Op: api.YRigid, N: len(rigids)})
		rigids = append(rigids, api.Rigid{Kind: put(e, context[:len(context)-1])})
	}
	mustBeFew(len(rigids), api.MaxMetas, api.ErrFull)
	given := k.given[:len(k.given):len(k.given)]
	for _, e := range c.Eqs {
		given = append(given, equation(put(e.Left, context), put(e.Right, context)))
	}
	known := k
	if len(c.Exis)+len(c.Eqs) > 0 {
		known = k.knowing(rigids, given)
	}
	_, impossible := known.worker.Rules(0)
	return option{c, context, known}, !impossible
}

// mustFit leaves if a number or a constructor is none of a normal type, or has not its arguments.
func (k *knowledge) mustFit(f *api.Pat, t api.Type) {
	if f.Op == api.PInt {
		if !isInt(t) {
			leave.With(api.ErrType)
		}
		return
	}
	data, args := k.data(t)
	c := k.index.Cons[f.S]
	if data == nil || c == nil || c.Data != data.Name || len(c.Univ) != len(args) {
		leave.With(api.ErrType)
	}
	if len(f.Args) != len(c.Args) {
		leave.With(api.ErrForm)
	}
}

func isInt(t api.Type) bool { return t.Op == api.YCon && t.S == "Int" }

// mustBeFew leaves with an error if there is more of something than there may be.
func mustBeFew(n, most int, e api.Errno) {
	if n > most {
		leave.With(e)
	}
}

// put puts types for the variables of a constructor.
func put(t api.Type, context []api.Type) api.Type { return leave.Must(types.Put(t, context)) }

func equation(a, b api.Type) api.Type {
	return leave.Must(types.Apply(api.Type{Op: api.YCon, S: "~"}, []api.Type{a, b}))
}
