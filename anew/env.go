package anew

import (
	"slices"

	"damask/api"
)

// Env copies an environment.
func Env(e *api.Env) api.Env {
	return api.Env{
		Data: Each(e.Data, data), Cons: Each(e.Cons, DataCon), Families: Each(e.Families, family),
		Classes: Each(e.Classes, class), Instances: Each(e.Instances, instance), Sigs: Each(e.Sigs, sig),
	}
}

// DataCon copies a constructor.
func DataCon(c *api.DataCon) api.DataCon {
	return api.DataCon{
		Name: c.Name, Data: c.Data, Univ: Types(c.Univ), Exis: Types(c.Exis), Eqs: Each(c.Eqs, equation),
		Given: Types(c.Given), Args: Types(c.Args), Fields: slices.Clone(c.Fields),
	}
}

func data(d *api.DataType) api.DataType {
	return api.DataType{Name: d.Name, Kind: Type(&d.Kind), Cons: slices.Clone(d.Cons), New: d.New}
}

func family(f *api.Family) api.Family {
	return api.Family{Name: f.Name, Kind: Type(&f.Kind), Arity: f.Arity, Eqs: Each(f.Eqs, axiom)}
}

func axiom(a *api.Axiom) api.Axiom {
	return api.Axiom{Vars: Types(a.Vars), Left: Types(a.Left), Right: Type(&a.Right)}
}

func class(c *api.Class) api.Class {
	return api.Class{Name: c.Name, Vars: Types(c.Vars), Supers: Types(c.Supers), Deps: Each(c.Deps, classDep), Sigs: Each(c.Sigs, sig)}
}

func classDep(d *api.ClassDep) api.ClassDep {
	return api.ClassDep{From: slices.Clone(d.From), To: slices.Clone(d.To)}
}

func instance(i *api.Instance) api.Instance {
	return api.Instance{Class: i.Class, Vars: Types(i.Vars), Context: Types(i.Context), Args: Types(i.Args)}
}
