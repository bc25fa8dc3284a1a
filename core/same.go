package core

import (
	"slices"

	"damask/api"
	"damask/types"
)

// same points at terms, since copies of them would fill the stack where they are nested deeply.
func same(a, b *api.Core) bool {
	return a.Op == b.Op && a.N == b.N && a.S == b.S && areSameTypes(a.Types, b.Types) &&
		areSame(a.Args, b.Args, same) && areSame(a.Alts, b.Alts, sameAlt) && areSame(a.Co, b.Co, sameCo)
}

func sameAlt(a, b *api.CoreAlt) bool {
	return a.Op == b.Op && a.S == b.S && a.N == b.N && same(&a.Body, &b.Body)
}

func sameCo(a, b *api.Co) bool {
	return a.Op == b.Op && a.N == b.N && a.S == b.S && areSameTypes(a.Types, b.Types) && areSame(a.Args, b.Args, sameCo)
}

func areSameTypes(a, b []api.Type) bool { return slices.EqualFunc(a, b, types.Same) }

func areSame[T any](a, b []T, same func(a, b *T) bool) bool {
	if len(a) != len(b) {
		return false
	}
	for i := range a {
		if !same(&a[i], &b[i]) {
			return false
		}
	}
	return true
}

// sizes are the numbers of what is in a term.
type sizes struct{ terms, cos, types int }

func sizeOf(c *api.Core) sizes {
	var n sizes
	n.term(c)
	return n
}

func (n *sizes) term(c *api.Core) {
	n.terms++
	n.types += len(c.Types)
	for i := range c.Args {
		n.term(&c.Args[i])
	}
	for i := range c.Alts {
		n.term(&c.Alts[i].Body)
	}
	for i := range c.Co {
		n.co(&c.Co[i])
	}
}

func (n *sizes) co(o *api.Co) {
	n.cos++
	n.types += len(o.Types)
	for i := range o.Args {
		n.co(&o.Args[i])
	}
}
