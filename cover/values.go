package cover

import (
	"iter"
	"slices"

	"damask/api"
	"damask/types"
)

// maxSize is the greatest size of values that can be asked for.
const maxSize = 6

// found is a value, with what is known when it has been looked at.
type found struct {
	value api.Pat
	known *knowledge
}

// look is a type whose values have been looked at, where something is known.
type look struct {
	t       api.Type
	options []option
	leaves  []api.Pat // the values, if there are no constructors
	sizes   map[int][]found
}

// upTo returns the values of a type from the smallest ones to those of a size.
func (k *knowledge) upTo(t api.Type, size int) []api.Pat {
	var l []api.Pat
	for n := 1; n <= size; n++ {
		for _, f := range k.values(t, n, true) {
			l = append(l, copied(&f.value))
		}
		mustBeFew(len(l), api.MaxWants, api.ErrFull)
	}
	return l
}

// values returns the values of a type that have a size; if they are the last ones, each of them makes one of those that are asked for. What has been found is kept: the same things come before many others.
func (k *knowledge) values(t api.Type, size int, last bool) []found {
	at := k.at(t)
	l, known := at.sizes[size]
	if !known {
		k.look()
		l = k.ofSize(at, size, last)
		at.sizes[size] = l
	}
	return l
}

func (k *knowledge) at(t api.Type) *look {
	for _, l := range k.looks {
		if types.Same(l.t, t) {
			return l
		}
	}
	l := &look{t: t, sizes: map[int][]found{}}
	k.looks = append(k.looks, l)
	normal := k.normal(t)
	data, _ := k.data(normal)
	switch {
	case isInt(normal):
		l.leaves = []api.Pat{{Op: api.PInt}, {Op: api.PInt, N: 1}}
	case data == nil || len(data.Cons) == 0:
		l.leaves = []api.Pat{wild()}
	default:
		l.options = slices.Collect(k.possible(normal))
	}
	return l
}

func (k *knowledge) ofSize(at *look, size int, last bool) []found {
	var l []found
	if size == 1 {
		for _, p := range at.leaves {
			l = append(l, found{p, k})
		}
	}
	for _, o := range at.options {
		if len(o.con.Args) >= size { // each of them has a size, too
			continue
		}
		for args, known := range o.known.lists(o.args(), size-1, last) {
			l = append(l, found{api.Pat{Op: api.PCon, S: o.con.Name, Args: args}, known})
			if last {
				mustBeFew(len(l), api.MaxWants, api.ErrFull)
			}
			mustBeFew(len(l), api.MaxFuel, api.ErrFuel)
		}
	}
	return l
}

// lists are lists of values of types that have a size together, with what is known behind each. They share memory.
func (k *knowledge) lists(l []api.Type, size int, last bool) iter.Seq2[[]api.Pat, *knowledge] {
	return func(yield func(l []api.Pat, known *knowledge) bool) {
		if len(l) == 0 {
			if size == 0 {
				yield(nil, k)
			}
			return
		}
		isLast := len(l) == 1
		for n := 1; n <= size-len(l)+1; n++ {
			for _, f := range k.values(l[0], n, last && isLast) {
				if !isLast {
					k.step()
				}
				for rest, known := range f.known.lists(l[1:], size-n, last) {
					if !yield(append([]api.Pat{f.value}, rest...), known) {
						return
					}
				}
			}
		}
	}
}
