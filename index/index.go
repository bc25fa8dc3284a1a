// Package index finds what an environment declares by its name, for the layers that look for much of it.
package index

import (
	"slices"

	"damask/api"
)

// Index has the declarations of an environment by their names. Of several with one name it has the first one.
type Index struct {
	Data    map[string]*api.DataType
	Cons    map[string]*api.DataCon
	Classes map[string]*api.Class
}

// New returns the index of an environment.
func New(env *api.Env) *Index {
	return &Index{
		Data:    by(env.Data, func(d *api.DataType) string { return d.Name }),
		Cons:    by(env.Cons, func(c *api.DataCon) string { return c.Name }),
		Classes: by(env.Classes, func(c *api.Class) string { return c.Name }),
	}
}

func by[T any](l []T, name func(*T) string) map[string]*T {
	made := map[string]*T{}
	for i := range slices.Backward(l) {
		made[name(&l[i])] = &l[i]
	}
	return made
}
