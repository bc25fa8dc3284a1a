package scope

import (
	"slices"

	"damask/api"
	"damask/leave"
	"damask/syntax"
)

func builtinTypes() []string {
	return []string{"Type", "Constraint", "->", "~", "Int", "Bool", "Unit", "IO", "STM", "TVar"}
}

func builtinValues() []string {
	return []string{
		"False", "True", "Unit", "add", "sub", "mul", "div", "mod", "eq", "lt", "le", "seq", "throw",
		"returnIO", "bindIO", "put", "get", "catch", "fork", "kill", "mask", "yield",
		"atomically", "returnSTM", "bindSTM", "newTVar", "readTVar", "writeTVar", "retry", "orElse",
	}
}

// space has the full names of some names: of types, and of values.
type space struct {
	types, values map[string]string
}

func newSpace() space { return space{map[string]string{}, map[string]string{}} }

// builtin returns what every module knows.
func builtin() space {
	s := newSpace()
	for _, name := range builtinTypes() {
		s.types[name] = name
	}
	for _, name := range builtinValues() {
		s.values[name] = name
	}
	return s
}

// checkModules wants all modules well built, and then small.
func checkModules(l []api.Module) {
	tooLarge := len(l) > api.MaxModules
	for _, m := range l {
		switch syntax.Check(m) {
		case api.ErrArg:
			leave.With(api.ErrArg)
		case api.ErrFull:
			tooLarge = true
		}
	}
	if tooLarge {
		leave.With(api.ErrFull)
	}
}

// ordered puts modules behind those that they import, the first ones first.
func ordered(l []api.Module) []int {
	checkModules(l)
	positions := map[string]int{}
	for i, m := range l {
		if _, twice := positions[m.Name]; twice {
			leave.With(api.ErrTwice)
		}
		positions[m.Name] = i
	}
	for _, m := range l {
		for _, i := range m.Imports {
			if _, there := positions[i.Module]; !there {
				leave.With(api.ErrName)
			}
		}
	}
	done := map[string]bool{}
	isReady := func(m api.Module) bool {
		waits := func(i api.Import) bool { return !done[i.Module] }
		return !done[m.Name] && !slices.ContainsFunc(m.Imports, waits)
	}
	var order []int
	for range l {
		next := slices.IndexFunc(l, isReady)
		if next < 0 {
			leave.With(api.ErrRing)
		}
		done[l[next].Name] = true
		order = append(order, next)
	}
	return order
}

// exported returns what a module exports, with full names.
func exported(m *api.Module) space {
	all := declared(m)
	if m.All {
		return all
	}
	return chosen(all, m.Exports)
}

// chosen returns those of some names that a space has; each must be in one of both parts.
func chosen(from space, names []string) space {
	s := newSpace()
	for _, name := range names {
		t, isType := from.types[name]
		v, isValue := from.values[name]
		if isType {
			s.types[name] = t
		}
		if isValue {
			s.values[name] = v
		}
		if !isType && !isValue {
			leave.With(api.ErrExport)
		}
	}
	return s
}

// declared returns what a module declares, with full names.
func declared(m *api.Module) space {
	s, known := newSpace(), builtin()
	add := func(to, known map[string]string, name string) {
		if to[name] != "" || known[name] != "" {
			leave.With(api.ErrTwice)
		}
		to[name] = m.Name + "." + name
	}
	value := func(name string) { add(s.values, known.values, name) }
	once(m.Decls, api.DSig, api.DBind)
	halves := map[string]bool{} // the values of which there is a DSig or a DBind
	for i := range m.Decls {
		d := &m.Decls[i]
		switch d.Op {
		case api.DData, api.DNew, api.DFamily, api.DClass:
			add(s.types, known.types, d.Name)
			for _, name := range within(d) {
				value(name)
			}
		case api.DSig, api.DBind:
			if !halves[d.Name] {
				value(d.Name)
			}
			halves[d.Name] = true
		}
	}
	return s
}

// within returns the values that the declaration of a type or a class declares: a field only once, as it may be in several constructors.
func within(d *api.Decl) []string {
	var names []string
	for _, c := range d.Cons {
		names = append(names, c.Name)
		for _, field := range c.Fields {
			if !slices.Contains(names, field) {
				names = append(names, field)
			}
		}
	}
	for _, s := range d.Sigs {
		names = append(names, s.Name)
	}
	return names
}

// once wants that no two declarations of one of some Ops have one name.
func once(l []api.Decl, ops ...int) {
	type named struct {
		op   int
		name string
	}
	seen := map[named]bool{}
	for _, d := range l {
		n := named{d.Op, d.Name}
		if seen[n] && slices.Contains(ops, d.Op) {
			leave.With(api.ErrTwice)
		}
		seen[n] = true
	}
}

// known returns all names that a module can use, from the exports of other modules by their names.
func known(m *api.Module, exports map[string]space) space {
	var brought []space
	for _, i := range m.Imports {
		from := exports[i.Module]
		if !i.All {
			from = chosen(from, i.Names)
		}
		brought = append(brought, from)
	}
	all := builtin()
	all.bring(declared(m))
	for _, s := range brought {
		all.bring(s)
	}
	return all
}

// bring adds names, each of which must not be there with another full name.
func (s space) bring(from space) {
	add := func(to, from map[string]string) {
		for name, full := range from {
			if to[name] != "" && to[name] != full {
				leave.With(api.ErrTwice)
			}
			to[name] = full
		}
	}
	add(s.types, from.types)
	add(s.values, from.values)
}
