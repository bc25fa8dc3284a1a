package decl

import (
	"damask/anew"
	"damask/api"
)

// Builtin returns the environment of an empty program.
func Builtin() api.Env {
	star := named("Type")
	env := api.Env{
		Data: []api.DataType{
			{Name: "Bool", Kind: star, Cons: []string{"False", "True"}}, {Name: "Unit", Kind: star, Cons: []string{"Unit"}}, {Name: "Int", Kind: star},
			{Name: "IO", Kind: function(star, star)}, {Name: "STM", Kind: function(star, star)}, {Name: "TVar", Kind: function(star, star)},
		},
		Cons: []api.DataCon{{Name: "False", Data: "Bool"}, {Name: "True", Data: "Bool"}, {Name: "Unit", Data: "Unit"}},
		Sigs: primitives(),
	}
	return anew.Env(&env) // the types of primitives share memory
}

func primitives() []api.Sig {
	number, truth, unit := named("Int"), named("Bool"), named("Unit")
	io := func(t api.Type) api.Type { return applied(named("IO"), t) }
	stm := func(t api.Type) api.Type { return applied(named("STM"), t) }
	one := func(l ...api.Type) api.Type { return foralls([]api.Type{named("Type")}, function(l...)) }
	two := func(l ...api.Type) api.Type { return foralls([]api.Type{named("Type")}, one(l...)) }
	last, first := variable(0), variable(1)
	cell := applied(named("TVar"), last)
	arithmetic, comparison := function(number, number, number), function(number, number, truth)
	return []api.Sig{
		{Name: "add", Type: arithmetic}, {Name: "sub", Type: arithmetic}, {Name: "mul", Type: arithmetic}, {Name: "div", Type: arithmetic}, {Name: "mod", Type: arithmetic},
		{Name: "eq", Type: comparison}, {Name: "lt", Type: comparison}, {Name: "le", Type: comparison},
		{Name: "seq", Type: two(first, last, last)},
		{Name: "throw", Type: one(number, last)},
		{Name: "returnIO", Type: one(last, io(last))},
		{Name: "bindIO", Type: two(io(first), function(first, io(last)), io(last))},
		{Name: "put", Type: function(number, io(unit))},
		{Name: "get", Type: io(number)},
		{Name: "catch", Type: one(io(last), function(number, io(last)), io(last))},
		{Name: "fork", Type: function(io(unit), io(number))},
		{Name: "kill", Type: function(number, number, io(unit))},
		{Name: "mask", Type: one(io(last), io(last))},
		{Name: "yield", Type: io(unit)},
		{Name: "atomically", Type: one(stm(last), io(last))},
		{Name: "returnSTM", Type: one(last, stm(last))},
		{Name: "bindSTM", Type: two(stm(first), function(first, stm(last)), stm(last))},
		{Name: "newTVar", Type: one(last, stm(cell))},
		{Name: "readTVar", Type: one(cell, stm(last))},
		{Name: "writeTVar", Type: one(cell, last, stm(unit))},
		{Name: "retry", Type: one(stm(last))},
		{Name: "orElse", Type: one(stm(last), stm(last), stm(last))},
	}
}
