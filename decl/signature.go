package decl

import "damask/api"

func (b *builder) signature(d *api.Decl) { b.sign(d.Name, nameless(&d.Type, inContext())) }

// selectors enters that of each field, once.
func (b *builder) selectors(*api.Decl) {
	data := b.data()
	known := map[string]bool{}
	for _, name := range data.Cons {
		c := findCon(&b.env, name)
		of := applied(named(data.Name), variables(len(c.Univ), len(c.Univ))...)
		for i, field := range c.Fields {
			if !known[field] {
				b.sign(field, foralls(c.Univ, function(of, c.Args[i])))
			}
			known[field] = true
		}
	}
}

func (b *builder) methods(*api.Decl) {
	c := &b.env.Classes[b.place[b.at]]
	given := applied(named(c.Name), variables(len(c.Vars), len(c.Vars))...)
	for _, s := range c.Sigs {
		b.sign(s.Name, foralls(c.Vars, implications([]api.Type{given}, s.Type)))
	}
}

func (b *builder) sign(name string, t api.Type) {
	b.mustBeType(nil, t)
	b.env.Sigs = append(b.env.Sigs, api.Sig{Name: name, Type: t})
}
