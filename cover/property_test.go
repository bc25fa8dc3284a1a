package cover

import (
	"math/rand"
	"slices"
	"testing"

	"damask/api"
	"damask/internal/problem"
)

func wildRow(n int) []api.Pat { return slices.Repeat([]api.Pat{wild()}, n) }

// matched reports whether one of some rows matches values.
func matched(t *testing.T, rows [][]api.Pat, values []api.Pat) bool {
	t.Helper()
	return slices.ContainsFunc(rows, func(row []api.Pat) bool {
		ok, e := Matches(row, values)
		if e != api.OK {
			t.Fatal(show(row), show(values), e)
		}
		return ok
	})
}

// unguarded returns the rows before one that are not guarded.
func (c *case_) unguarded(before int) [][]api.Pat {
	var l [][]api.Pat
	for i, row := range c.rows[:before] {
		if !c.guarded[i] {
			l = append(l, row)
		}
	}
	return l
}

// TestExact: values are matched by rows or missing rows, and never by both.
func TestExact(t *testing.T) {
	r := rand.New(rand.NewSource(1))
	e := problem.Env(world + tuples)
	made, refined, count := 0, 0, map[api.Errno]int{}
	for range 8000 {
		m := newMaker(r, e)
		c, ok := m.matrix(r.Intn(2) == 0, r.Intn(2) == 0)
		if !ok {
			continue
		}
		l, err := Missing(e, c.rigids, c.columns, c.rows, c.guarded)
		count[err]++
		if err != api.OK {
			continue
		}
		made++
		for _, v := range c.values {
			here, missing := matched(t, c.unguarded(len(c.rows)), v), matched(t, l, v)
			if !here && !missing || here && missing && !c.numbers {
				t.Fatal(problem.Types(c.columns), showRows(c.rows), "missing", showRows(l), show(v), here, missing)
			}
		}
		if len(l) == 0 && len(c.rows) > 0 {
			refined++
		}
		checkUseless(t, e, c, l)
		rows, guarded := append(slices.Clone(c.rows), wildRow(len(c.columns))), append(slices.Clone(c.guarded), false)
		if l, err := Missing(e, c.rigids, c.columns, rows, guarded); err != api.OK || len(l) > 0 {
			t.Fatal("a row that matches everything leaves", showRows(l), err)
		}
	}
	if made < 3000 || refined < 400 || count[api.ErrType] < 50 {
		t.Error(made, refined, count)
	}
}

// checkUseless: what useless rows match is matched before them, and without one of them the same is missing.
func checkUseless(t *testing.T, e api.Env, c case_, missing [][]api.Pat) {
	useless, err := Useless(e, c.rigids, c.columns, c.rows, c.guarded)
	if err != api.OK {
		return // guarded rows can have errors, too
	}
	for _, i := range useless {
		for _, v := range c.values {
			if matched(t, c.rows[i:i+1], v) && !matched(t, c.unguarded(i), v) {
				t.Fatal("useless", i, showRows(c.rows), show(v))
			}
		}
		rows, guarded := slices.Delete(slices.Clone(c.rows), i, i+1), slices.Delete(slices.Clone(c.guarded), i, i+1)
		l, err := Missing(e, c.rigids, c.columns, rows, guarded)
		if err == api.ErrType {
			continue
		}
		for _, v := range c.values {
			if err != api.OK || matched(t, l, v) != matched(t, missing, v) {
				t.Fatal("without the useless row", i, "of", showRows(c.rows), "missing", showRows(l), show(v))
			}
		}
	}
}

// TestUsefulRows: what is useful matches something that is missing before, and that can be (by another way to find this out).
func TestUsefulRows(t *testing.T) {
	r := rand.New(rand.NewSource(2))
	e := problem.Env(world + tuples)
	useful, not := 0, 0
	for range 12000 {
		m := newMaker(r, e)
		c, ok := m.matrix(false, false)
		if !ok || len(c.rows) == 0 {
			continue
		}
		found, err := Useless(e, c.rigids, c.columns, c.rows, c.guarded)
		if err != api.OK {
			continue
		}
		for i, row := range c.rows {
			missing, err := Missing(e, c.rigids, c.columns, c.unguarded(i), make([]bool, len(c.unguarded(i))))
			if err != api.OK {
				continue
			}
			want := slices.ContainsFunc(missing, func(l []api.Pat) bool {
				met, ok := meetAll(row, l)
				return ok && newOracle(e).canBe(c.columns, met)
			})
			if got := !slices.Contains(found, i); got != want {
				t.Fatal(problem.Types(c.columns), showRows(c.rows), i, "useful", got, want)
			}
			if want {
				useful++
			} else {
				not++
			}
		}
	}
	if useful < 3000 || not < 500 {
		t.Error(useful, not)
	}
}

// meetAll returns the patterns that match what both of two lists match, if there is something.
func meetAll(a, b []api.Pat) ([]api.Pat, bool) {
	var l []api.Pat
	for i := range a {
		p, q := form(&a[i]), form(&b[i])
		switch {
		case p.Op == api.PWild:
			l = append(l, q)
		case q.Op == api.PWild:
			l = append(l, p)
		case !areAlike(&p, &q):
			return nil, false
		default:
			args, ok := meetAll(p.Args, q.Args)
			if !ok {
				return nil, false
			}
			l = append(l, api.Pat{Op: p.Op, S: p.S, N: p.N, Args: args})
		}
	}
	return l, true
}

// TestValuesOracle: values are those that are found by unification, in their order.
func TestValuesOracle(t *testing.T) {
	r := rand.New(rand.NewSource(3))
	e := problem.Env(world + tuples)
	some := 0
	for range 6000 {
		m := newMaker(r, e)
		typ, size := m.star(3, false), r.Intn(3)+r.Intn(5)
		got, err := Values(e, m.rigids, typ, size)
		if err != api.OK && err != api.ErrFull {
			t.Fatal(problem.Types([]api.Type{typ}), err)
		}
		want := newOracle(e).values(typ, size)
		if err == api.ErrFull != (len(want) > api.MaxWants) || err == api.OK && show(got) != show(want) {
			t.Fatal(problem.Types([]api.Type{typ}), size, show(got), "not", show(want), err)
		}
		if len(got) > 1 {
			some++
		}
		names, err := Possible(e, m.rigids, nil, typ)
		if want := newOracle(e).heads(typ); err != api.OK || !slices.Equal(names, want) {
			t.Fatal(problem.Types([]api.Type{typ}), names, want, err)
		}
	}
	if some < 700 {
		t.Error(some)
	}
}
