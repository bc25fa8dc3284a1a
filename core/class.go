package core

import (
	"slices"
	"strings"

	"damask/api"
)

// mark stands behind the name of a class in that of its constructor.
const mark = "%"

// classOf returns the class whose constructor has a name, or nil.
func (c context) classOf(name string) *api.Class {
	bare, ok := strings.CutSuffix(name, mark)
	if !ok {
		return nil
	}
	return c.index.Classes[bare]
}

// dictionary returns the type of the constructor of a class, which is not proper if it would be too large.
func dictionary(class *api.Class) api.Type {
	t := named(class.Name)
	for _, v := range own(len(class.Vars)) {
		t = api.Type{Op: api.YApp, Args: []api.Type{t, v}}
	}
	for _, s := range slices.Backward(class.Sigs) {
		f := api.Type{Op: api.YApp, Args: []api.Type{named("->"), s.Type}}
		t = api.Type{Op: api.YApp, Args: []api.Type{f, t}}
	}
	for _, s := range slices.Backward(class.Supers) {
		t = api.Type{Op: api.YImp, Args: []api.Type{s, t}}
	}
	for _, k := range slices.Backward(class.Vars) {
		t = api.Type{Op: api.YAll, Args: []api.Type{k, t}}
	}
	return t
}
