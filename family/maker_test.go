package family

import (
	"math/rand"
	"strconv"

	"damask/api"
	"damask/types"
)

// maker makes random families, and types in which every family has all its arguments.
type maker struct {
	*rand.Rand
	env api.Env
}

func newMaker(seed int64) *maker {
	m := &maker{Rand: rand.New(rand.NewSource(seed))}
	for i := range 2 + m.Intn(4) {
		m.env.Families = append(m.env.Families, api.Family{Name: "F" + strconv.Itoa(i), Kind: con("Type"), Arity: m.Intn(4)})
	}
	for i := range m.env.Families {
		m.equations(i)
	}
	return m
}

// equations gives a family up to four equations. Their right sides name families behind it mostly, so that most types have a normal form.
func (m *maker) equations(i int) {
	f := &m.env.Families[i]
	for range 1 + m.Intn(4) {
		variables := m.Intn(4)
		a := api.Axiom{}
		for range f.Arity {
			a.Left = append(a.Left, m.left(variables, m.Intn(3)))
		}
		variables = m.compact(a.Left)
		for range variables {
			a.Vars = append(a.Vars, con("Type"))
		}
		from := i + 1
		if m.Intn(4) == 0 {
			from = 0
		}
		a.Right = m.right(from, variables, m.Intn(4))
		f.Eqs = append(f.Eqs, a)
	}
}

func (m *maker) left(variables, depth int) api.Type {
	switch {
	case depth > 0 && m.Intn(2) == 0:
		return app(m.left(variables, depth-1), m.left(variables, depth-1))
	case variables > 0 && m.Intn(3) > 0:
		return bound(m.Intn(variables))
	}
	return con([]string{"A", "B", "C"}[m.Intn(3)])
}

// compact numbers the variables of left sides anew, so that all numbers occur, and returns how many there are.
func (m *maker) compact(l []api.Type) int {
	numbers := map[int]int{}
	var walk func(t *api.Type)
	walk = func(t *api.Type) {
		if t.Op == api.YVar {
			n, found := numbers[t.N]
			if !found {
				n = len(numbers)
				numbers[t.N] = n
			}
			t.N = n
		}
		for i := range t.Args {
			walk(&t.Args[i])
		}
	}
	for i := range l {
		walk(&l[i])
	}
	return len(numbers)
}

// right makes a type of families from one on, with free variables less than a number.
func (m *maker) right(from, variables, depth int) api.Type {
	in := func() api.Type { return m.right(from, variables, depth-1) }
	switch n := m.Intn(10); {
	case depth > 0 && n < 2:
		return app(in(), in())
	case depth > 0 && n < 6 && from < len(m.env.Families):
		f := m.env.Families[from+m.Intn(len(m.env.Families)-from)]
		t := con(f.Name)
		for range f.Arity {
			t = app(t, in())
		}
		return t
	case depth > 0 && n == 6:
		return all(in(), m.right(from, variables+1, depth-1))
	case depth > 0 && n == 7:
		return imp(in(), in())
	case variables > 0 && m.Intn(4) > 0:
		return bound(m.Intn(variables))
	}
	return con([]string{"A", "B", "C"}[m.Intn(3)])
}

// typ makes a type with a few variables of each sort.
func (m *maker) typ(depth int) api.Type {
	t := m.right(0, 3, depth)
	var mark func(t api.Type, around int) api.Type
	mark = func(t api.Type, around int) api.Type {
		if t.Op == api.YVar && t.N >= around && m.Intn(3) > 0 {
			return api.Type{Op: []int{api.YMeta, api.YRigid}[m.Intn(2)], N: m.Intn(2)}
		}
		made := api.Type{Op: t.Op, N: t.N, S: t.S}
		for i, a := range t.Args {
			in := around
			if t.Op == api.YAll && i == 1 {
				in++
			}
			made.Args = append(made.Args, mark(a, in))
		}
		return made
	}
	return mark(t, 0)
}

// args makes arguments for an equation, which are often so that it matches, and almost.
func (m *maker) args(a api.Axiom) []api.Type {
	var values []api.Type
	for range a.Vars {
		values = append(values, m.typ(m.Intn(3)))
	}
	var l []api.Type
	for _, left := range a.Left {
		t, _ := types.Put(left, values)
		if m.Intn(3) == 0 {
			t = m.spoiled(t)
		}
		l = append(l, t)
	}
	return l
}

// spoiled is a type of which one part, that is no family with arguments, is another one.
func (m *maker) spoiled(t api.Type) api.Type {
	if t.Op != api.YApp || m.Intn(3) == 0 || m.familyOf(t) != nil {
		return m.typ(m.Intn(3))
	}
	if m.Intn(2) == 0 {
		return app(m.spoiled(t.Args[0]), t.Args[1])
	}
	return app(t.Args[0], m.spoiled(t.Args[1]))
}

func (m *maker) familyOf(t api.Type) *api.Family {
	head, l, _ := types.Spine(t)
	for i, f := range m.env.Families {
		if head.Op == api.YCon && head.S == f.Name && len(l) == f.Arity {
			return &m.env.Families[i]
		}
	}
	return nil
}
