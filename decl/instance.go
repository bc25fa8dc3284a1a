package decl

import (
	"slices"

	"damask/api"
	"damask/leave"
	"damask/nodes"
)

// instance enters an instance: a declared one, or a derived one that is made like those.
func (b *builder) instance(d *api.Decl) {
	t := proper(nameless(&d.Type, inContext()))
	vars, context, rest := split(t)
	class, args := classOf(&b.env, rest)
	if class == nil || len(args) != len(class.Vars) {
		leave.With(api.ErrForm)
	}
	for i, k := range vars {
		b.mustBeType(vars[:i], k)
	}
	for _, c := range append(slices.Clip(context), rest) {
		b.mustBeConstraint(vars, c)
	}
	in := api.Instance{Class: class.Name, Vars: vars, Context: context, Args: args}
	b.checkForm(&in, class)
	b.heads.enter(&in, class)
	checkMethods(class, d.Decls)
	b.env.Instances = append(b.env.Instances, in)
}

// checkForm makes sure that to look for instances comes to an end, and leaves no variable open.
func (b *builder) checkForm(in *api.Instance, class *api.Class) {
	b.mustBeSimple(in.Args)
	all := countedIn(in.Args)
	for _, c := range in.Context {
		super, args := classOf(&b.env, c)
		if super == nil {
			leave.With(api.ErrForm)
		}
		b.mustBeSimple(args)
		if !countedIn(args).isWithin(all) {
			leave.With(api.ErrForm)
		}
	}
	for i := range in.Vars {
		if all.variables[i] == 0 {
			leave.With(api.ErrForm)
		}
	}
	for _, d := range class.Deps {
		from := countedIn(chosen(in.Args, d.From))
		for v := range countedIn(chosen(in.Args, d.To)).variables {
			if from.variables[v] == 0 {
				leave.With(api.ErrForm)
			}
		}
	}
}

// mustBeSimple leaves if types are not plain, or have foralls or implications.
func (b *builder) mustBeSimple(l []api.Type) {
	for _, t := range l {
		nodes.Visit(t, func(node api.Type, _ int) {
			if node.Op == api.YAll || node.Op == api.YImp || b.known.Of(&node) != nil {
				leave.With(api.ErrForm)
			}
		})
	}
}

// count says how many nodes there are, and how often each variable is among them.
type count struct {
	nodes     int
	variables map[int]int
}

func countedIn(l []api.Type) count {
	c := count{variables: map[int]int{}}
	for _, t := range l {
		nodes.Visit(t, func(node api.Type, _ int) {
			c.nodes++
			if node.Op == api.YVar {
				c.variables[node.N]++
			}
		})
	}
	return c
}

// isWithin reports whether there are fewer nodes than in another count, and no variable more often.
func (c count) isWithin(all count) bool {
	for v, n := range c.variables {
		if n > all.variables[v] {
			return false
		}
	}
	return c.nodes < all.nodes
}

// chosen returns the items of a list at some positions.
func chosen[T any](l []T, positions []int) []T {
	var made []T
	for _, i := range positions {
		made = append(made, l[i])
	}
	return made
}

// checkMethods wants a definition of each method, and no other one.
func checkMethods(class *api.Class, l []api.Decl) {
	defined := map[string]bool{}
	for i := range l {
		name := l[i].Name
		if !slices.ContainsFunc(class.Sigs, func(s api.Sig) bool { return s.Name == name }) {
			leave.With(api.ErrName)
		}
		defined[name] = true
	}
	for _, s := range class.Sigs {
		if !defined[s.Name] {
			leave.With(api.ErrField)
		}
	}
}
