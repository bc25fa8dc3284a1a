package cover

import (
	"math/rand"
	"strconv"

	"damask/api"
)

// maker makes types of the world, and rows of patterns for them.
type maker struct {
	*rand.Rand
	env    api.Env
	rigids []api.Rigid
}

func newMaker(r *rand.Rand, e api.Env) *maker {
	m := &maker{r, e, nil}
	for range r.Intn(4) {
		m.rigids = append(m.rigids, api.Rigid{Kind: named([]string{"Type", "Type", "Nat"}[r.Intn(3)])})
	}
	return m
}

func applied(head string, args ...api.Type) api.Type {
	t := named(head)
	for _, a := range args {
		t = api.Type{Op: api.YApp, Args: []api.Type{t, a}}
	}
	return t
}

// rigid returns a rigid variable of a kind, if there is one.
func (m *maker) rigid(kind string) (api.Type, bool) {
	for range 4 {
		if len(m.rigids) == 0 {
			break
		}
		if n := m.Intn(len(m.rigids)); m.rigids[n].Kind.S == kind {
			return api.Type{Op: api.YRigid, N: n}, true
		}
	}
	return api.Type{}, false
}

func (m *maker) nat(depth int, families bool) api.Type {
	if r, ok := m.rigid("Nat"); ok && m.Intn(2) == 0 {
		return r
	}
	switch n := m.Intn(5); {
	case depth == 0 || n < 2:
		return named("'Z")
	case n == 2 && families:
		return applied("Add", m.nat(depth-1, families), m.nat(depth-1, families))
	}
	return applied("'S", m.nat(depth-1, families))
}

func (m *maker) star(depth int, families bool) api.Type {
	if r, ok := m.rigid("Type"); ok && m.Intn(3) == 0 {
		return r
	}
	star := func() api.Type { return m.star(depth-1, families) }
	nat := func() api.Type { return m.nat(2, families) }
	simple := []string{"Bool", "Unit", "Three", "Nat", "Int", "Void", "Some"}
	if depth == 0 {
		return named(simple[m.Intn(len(simple))])
	}
	switch m.Intn(13) {
	case 0, 1:
		return applied("List", star())
	case 2, 3:
		return applied("Pair", star(), star())
	case 4, 5:
		return applied("Vec", star(), nat())
	case 6:
		return applied("Fin", nat())
	case 7, 8:
		return applied("Is", star(), star())
	case 9, 10:
		return applied("Ty", star())
	case 11:
		return applied("Both", star(), nat())
	}
	if families && m.Intn(2) == 0 {
		return []api.Type{applied("Elem", star()), applied("Plus", nat(), nat(), nat())}[m.Intn(2)]
	}
	return named(simple[m.Intn(len(simple))])
}

// pattern makes one that fits a value of a type mostly: it follows a value, and leaves out parts of it.
func (m *maker) pattern(v api.Pat, numbers bool) api.Pat {
	if v.Op == api.PWild || m.Intn(3) == 0 || v.Op == api.PInt && !numbers {
		return []api.Pat{{Op: api.PWild}, {Op: api.PVar, S: "x"}, {Op: api.PLazy, Args: []api.Pat{v}}}[m.Intn(3)]
	}
	made := api.Pat{Op: v.Op, S: v.S, N: v.N}
	for i := range v.Args {
		made.Args = append(made.Args, m.pattern(v.Args[i], numbers))
	}
	switch m.Intn(8) {
	case 0:
		return api.Pat{Op: api.PBang, Args: []api.Pat{made}}
	case 1:
		return api.Pat{Op: api.PAs, S: "x", Args: []api.Pat{made}}
	}
	return made
}

// tuples are data types for several columns.
const tuples = `
	data T1 : Type -> Type { T1 : a -> T1 a; };
	data T2 : Type -> Type -> Type { T2 : a -> b -> T2 a b; };
	data T3 : Type -> Type -> Type -> Type { T3 : a -> b -> c -> T3 a b c; };
`

// case_ is a random matrix, with values of its columns.
type case_ struct {
	rigids  []api.Rigid
	columns []api.Type
	rows    [][]api.Pat
	guarded []bool
	values  [][]api.Pat
	numbers bool
}

// matrix makes columns that have values, and rows that follow some of these; or fails.
func (m *maker) matrix(families, numbers bool) (case_, bool) {
	c := case_{rigids: m.rigids, numbers: numbers}
	for range 1 + m.Intn(3) {
		c.columns = append(c.columns, m.star(m.Intn(3), families))
	}
	l, e := Values(m.env, m.rigids, applied("T"+strconv.Itoa(len(c.columns)), c.columns...), 6)
	if e != api.OK || len(l) == 0 {
		return c, false
	}
	for _, v := range l {
		c.values = append(c.values, v.Args)
	}
	for range m.Intn(6) {
		var row []api.Pat
		for _, p := range c.values[m.Intn(len(c.values))] {
			row = append(row, m.pattern(p, numbers))
		}
		c.rows, c.guarded = append(c.rows, row), append(c.guarded, m.Intn(5) == 0)
	}
	return c, true
}
