package rewrite

import (
	"damask/api"
	"damask/leave"
	"damask/types"
)

// maxSteps is how many steps may be made for one normal form.
const maxSteps = api.MaxFuel / 20

// Reducer makes normal forms. Step tells it what a type that has no step in its parts becomes, in new memory, if it has a step itself.
type Reducer struct {
	Step  func(t api.Type) (api.Type, bool)
	whole *api.Type
	steps int
}

// Normal returns the normal form of a proper type, and the number of steps that lead to it.
func (r *Reducer) Normal(t api.Type) (api.Type, int) {
	whole := leave.Must(types.Shift(t, 0, 0)) // in new memory, since it is reduced in place
	r.whole, r.steps = &whole, 0
	r.reduce(&whole)
	return whole, r.steps
}

// reduce goes from the inside to the outside and from left to right, and looks at what a step leads to in the same way.
func (r *Reducer) reduce(t *api.Type) {
	for {
		for i := range t.Args {
			r.reduce(&t.Args[i])
		}
		next, ok := r.Step(*t)
		if !ok {
			return
		}
		if r.steps++; r.steps > maxSteps {
			leave.With(api.ErrFuel)
		}
		*t = next
		if types.Check(*r.whole) != api.OK {
			leave.With(api.ErrFull)
		}
	}
}
