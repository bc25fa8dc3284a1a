package decl

import (
	"slices"

	"damask/api"
	"damask/leave"
)

func (b *builder) class(d *api.Decl) {
	c := &b.env.Classes[b.place[b.at]]
	var names []string
	for i, k := range c.Vars {
		b.mustBeType(nil, k)
		names = append(names, d.Vars[i].Name)
	}
	if hasTwice(names) {
		leave.With(api.ErrTwice)
	}
	for i := range d.Context {
		c.Supers = append(c.Supers, b.super(c, nameless(&d.Context[i], inContext(names...))))
	}
	for i := range d.Sigs {
		s := api.Sig{Name: d.Sigs[i].Name, Type: nameless(&d.Sigs[i].Type, inContext(names...))}
		b.mustBeType(c.Vars, s.Type)
		c.Sigs = append(c.Sigs, s)
	}
	for i := range d.Deps {
		c.Deps = append(c.Deps, dependency(&d.Deps[i], names))
	}
}

// super returns a superclass, in the context of the class's variables.
func (b *builder) super(c *api.Class, t api.Type) api.Type {
	class, args := classOf(&b.env, proper(t))
	switch {
	case class == nil:
		leave.With(api.ErrForm)
	case len(args) != len(class.Vars):
		leave.With(api.ErrKind)
	}
	b.mustBeConstraint(c.Vars, t)
	return t
}

func dependency(d *api.Dep, names []string) api.ClassDep {
	var made api.ClassDep
	for _, name := range d.From {
		made.From = append(made.From, position(names, name))
	}
	for _, name := range d.To {
		made.To = append(made.To, position(names, name))
	}
	if hasTwice(slices.Concat(d.From, d.To)) {
		leave.With(api.ErrTwice)
	}
	return made
}

// ring leaves if a class is its own superclass, over any number of steps.
func (b *builder) ring(d *api.Decl) {
	reached := map[string]bool{}
	for work := []string{d.Name}; len(work) > 0; work = work[1:] {
		for _, s := range findClass(&b.env, work[0]).Supers {
			super, _ := classOf(&b.env, s)
			if super.Name == d.Name {
				leave.With(api.ErrRing)
			}
			if !reached[super.Name] {
				reached[super.Name] = true
				work = append(work, super.Name)
			}
		}
	}
}
