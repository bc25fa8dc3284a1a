package solve

import (
	"iter"
	"slices"

	"damask/api"
	"damask/decl"
	"damask/leave"
	"damask/rewrite"
	"damask/types"
)

// classOf returns the class that a type is applied to all arguments of, and these; or no class.
func (s *solver) classOf(t api.Type) (*api.Class, []api.Type) {
	var args []api.Type
	for ; t.Op == api.YApp; t = t.Args[0] {
		args = append(args, t.Args[1])
	}
	slices.Reverse(args)
	class := s.classes[t.S]
	if t.Op != api.YCon || class == nil || len(args) != len(class.Vars) {
		return nil, nil
	}
	return class, args
}

// isConstraint reports whether a type is a class constraint.
func (s *solver) isConstraint(t api.Type) bool {
	class, _ := s.classOf(t)
	return class != nil
}

// given returns the class constraints that are given in an implication, each before its superclasses.
func (s *solver) given(imp int) []api.Type {
	return s.givens.Find(s.Worker, imp, func(imp int) []api.Type {
		var l []api.Type
		for _, i := range s.Chain(imp) {
			for _, g := range s.imps[i].Given {
				if !s.isConstraint(g) {
					continue
				}
				l = append(l, s.Normal(imp, g))
				for _, super := range leave.Must(decl.Supers(*s.env, g)) {
					l = append(l, s.Normal(imp, super))
				}
			}
		}
		return l
	})
}

// instance returns the context of the instance that matches a class constraint, if there is one.
func (s *solver) instance(c api.Type) ([]api.Type, bool) {
	class, args := s.classOf(c)
	found := leave.Must(decl.Instances(*s.env, class.Name, args))
	if len(found) == 0 {
		return nil, false
	}
	in := &s.env.Instances[found[0]]
	became, _ := s.known.Match(in.Args, args)
	var context []api.Type
	for _, t := range in.Context {
		context = append(context, put(t, became))
	}
	return context, true
}

// improvements are the types that dependencies make the same, of a class constraint and those that are given, and of the class's instances.
func (s *solver) improvements(c api.Type, given []api.Type) iter.Seq2[api.Type, api.Type] {
	class, args := s.classOf(c)
	return func(yield func(a, b api.Type) bool) {
		for _, d := range class.Deps {
			for determined := range s.determined(class, d, args, given) {
				for i, to := range d.To {
					if !yield(determined[i], args[to]) {
						return
					}
				}
			}
		}
	}
}

// determined are what the arguments To of a dependency must be: by what is given first, and then by instances.
func (s *solver) determined(class *api.Class, d api.ClassDep, args, given []api.Type) iter.Seq[[]api.Type] {
	from := chosen(args, d.From)
	return func(yield func(l []api.Type) bool) {
		for _, g := range given {
			other, known := s.classOf(g)
			if other == class && slices.EqualFunc(chosen(known, d.From), from, types.Same) && !yield(chosen(known, d.To)) {
				return
			}
		}
		for i := range s.env.Instances {
			in := &s.env.Instances[i]
			if in.Class != class.Name {
				continue
			}
			if became, ok := s.known.Match(chosen(in.Args, d.From), from); ok && !yield(putEach(chosen(in.Args, d.To), became)) {
				return
			}
		}
	}
}

// chosen returns the items of a list at some positions.
func chosen[T any](l []T, positions []int) []T {
	var made []T
	for _, i := range positions {
		made = append(made, l[i])
	}
	return made
}

// put puts types for the variables of an instance.
func put(t api.Type, became map[int]api.Type) api.Type {
	made := rewrite.Put(t, became)
	if types.Check(made) != api.OK {
		leave.With(api.ErrFull)
	}
	return made
}

func putEach(l []api.Type, became map[int]api.Type) []api.Type {
	var made []api.Type
	for _, t := range l {
		made = append(made, put(t, became))
	}
	return made
}
