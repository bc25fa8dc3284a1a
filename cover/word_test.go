package cover

import (
	"math/rand"
	"reflect"
	"slices"
	"testing"

	"damask/api"
	"damask/decl"
	"damask/internal/problem"
	"damask/types"
	"damask/unify"
)

// word follows the chapter word by word, with lists that are copied and layers 8 and 9 asked anew each time.
type word struct {
	env      api.Env
	matrices int
}

// known is what is known: rigid variables, and equations between types of them.
type known struct {
	rigids []api.Rigid
	given  []api.Type
}

type wordError struct{ e api.Errno }

func (w *word) look() {
	if w.matrices++; w.matrices > 1000 {
		panic(wordError{api.ErrFuel})
	}
}

func sure[T any](v T, e api.Errno) T {
	if e != api.OK {
		panic(wordError{e})
	}
	return v
}

func (k known) problem() api.Problem {
	return api.Problem{Rigids: k.rigids, Imps: []api.Imp{{Parent: -1, Given: k.given}}}
}

// possible returns what the types of Args are, and what is known then, for each constructor that is possible.
func (w *word) possible(k known, t api.Type) (names []string, args [][]api.Type, in []known) {
	head, l, _ := types.Spine(t)
	for _, d := range w.env.Data {
		if head.Op != api.YCon || d.Name != head.S {
			continue
		}
		for _, name := range d.Cons {
			c := sure(decl.Con(w.env, name))
			context := slices.Clone(l)
			made := known{slices.Clone(k.rigids), slices.Clone(k.given)}
			for _, e := range c.Exis {
				r := api.Rigid{Kind: sure(types.Put(e, context))}
				context = append(context, api.Type{Op: api.YRigid, N: len(made.rigids)})
				made.rigids = append(made.rigids, r)
			}
			for _, e := range c.Eqs {
				sides := []api.Type{sure(types.Put(e.Left, context)), sure(types.Put(e.Right, context))}
				made.given = append(made.given, sure(types.Apply(named("~"), sides)))
			}
			_, impossible, e := unify.Rules(w.env, made.problem(), 0)
			if sure(impossible, e) {
				continue
			}
			var of []api.Type
			for _, a := range c.Args {
				of = append(of, sure(types.Put(a, context)))
			}
			names, args, in = append(names, name), append(args, of), append(in, made)
		}
		return
	}
	return
}

// column returns the normal type of the first column, if patterns are to be told apart there and fit.
func (w *word) column(k known, t api.Type, rows [][]api.Pat) (api.Type, int) {
	op := api.PWild
	for _, r := range rows {
		if f := form(&r[0]); f.Op != api.PWild {
			op = f.Op
		}
	}
	if op == api.PWild {
		return t, op
	}
	t = sure(unify.Normal(w.env, k.problem(), 0, t))
	for _, r := range rows {
		f := form(&r[0])
		head, _, _ := types.Spine(t)
		switch f.Op {
		case api.PInt:
			if !types.Same(t, named("Int")) {
				panic(wordError{api.ErrType})
			}
		case api.PCon:
			c, e := decl.Con(w.env, f.S)
			if e != api.OK || head.Op != api.YCon || head.S != c.Data {
				panic(wordError{api.ErrType})
			}
			if len(f.Args) != len(c.Args) {
				panic(wordError{api.ErrForm})
			}
		}
	}
	return t, op
}

func numbersOf(rows [][]api.Pat) []int {
	var l []int
	for _, r := range rows {
		if f := form(&r[0]); f.Op == api.PInt && !slices.Contains(l, f.N) {
			l = append(l, f.N)
		}
	}
	slices.Sort(l)
	return l
}

// under returns the rows that match a head with n arguments (a PWild: those with PWilds alone).
func under(rows [][]api.Pat, head api.Pat, n int) [][]api.Pat {
	var l [][]api.Pat
	for _, r := range rows {
		f := form(&r[0])
		switch {
		case f.Op == api.PWild:
			l = append(l, slices.Concat(wildRow(n), r[1:]))
		case f.Op == head.Op && f.S == head.S && f.N == head.N:
			l = append(l, slices.Concat(f.Args, r[1:]))
		}
	}
	return l
}

func (w *word) missing(k known, columns []api.Type, rows [][]api.Pat) [][]api.Pat {
	w.look()
	if len(columns) == 0 {
		if len(rows) == 0 {
			return [][]api.Pat{{}}
		}
		return nil
	}
	var found [][]api.Pat
	before := func(head api.Pat, n int, l [][]api.Pat) {
		for _, r := range l {
			h := head
			h.Args = r[:n]
			found = append(found, append([]api.Pat{h}, r[n:]...))
		}
	}
	t, op := w.column(k, columns[0], rows)
	switch op {
	case api.PInt:
		for _, n := range numbersOf(rows) {
			head := api.Pat{Op: api.PInt, N: n}
			before(head, 0, w.missing(k, columns[1:], under(rows, head, 0)))
		}
		fallthrough
	case api.PWild:
		before(wild(), 0, w.missing(k, columns[1:], under(rows, wild(), 0)))
	case api.PCon:
		names, args, in := w.possible(k, t)
		for i, name := range names {
			head := api.Pat{Op: api.PCon, S: name}
			before(head, len(args[i]), w.missing(in[i], slices.Concat(args[i], columns[1:]), under(rows, head, len(args[i]))))
		}
	}
	return found
}

func (w *word) useful(k known, columns []api.Type, rows [][]api.Pat, own []api.Pat) bool {
	w.look()
	if len(columns) == 0 {
		return len(rows) == 0
	}
	f := form(&own[0])
	all := rows
	if f.Op != api.PWild {
		all = append(slices.Clone(rows), own)
	}
	within := func(k known, args []api.Type, head api.Pat) bool {
		l := under([][]api.Pat{own}, head, len(args))
		return len(l) > 0 && w.useful(k, slices.Concat(args, columns[1:]), under(rows, head, len(args)), l[0])
	}
	t, op := w.column(k, columns[0], all)
	switch op {
	case api.PInt:
		for _, n := range numbersOf(all) {
			if within(k, nil, api.Pat{Op: api.PInt, N: n}) {
				return true
			}
		}
		return f.Op == api.PWild && within(k, nil, wild())
	case api.PCon:
		names, args, in := w.possible(k, t)
		for i, name := range names {
			if within(in[i], args[i], api.Pat{Op: api.PCon, S: name}) {
				return true
			}
		}
		return false
	}
	return within(k, nil, wild())
}

func answer[T any](find func() T) (result T, e api.Errno) {
	defer func() {
		if p, ok := recover().(wordError); ok {
			e = p.e
		}
	}()
	return find(), api.OK
}

func (w *word) missingOf(c case_) ([][]api.Pat, api.Errno) {
	l, e := answer(func() [][]api.Pat { return w.missing(known{c.rigids, nil}, c.columns, c.unguarded(len(c.rows))) })
	if e == api.OK && len(l) > 120 {
		return nil, api.ErrFull
	}
	return l, e
}

func (w *word) uselessOf(c case_) ([]int, api.Errno) {
	return answer(func() []int {
		var l []int
		for i, own := range c.rows {
			if !w.useful(known{c.rigids, nil}, c.columns, c.unguarded(i), own) {
				l = append(l, i)
			}
		}
		return l
	})
}

// TestWordByWord: random matrices, and those with wrong patterns in them, have the missing and useless rows, or the errors, that the chapter says.
func TestWordByWord(t *testing.T) {
	r := rand.New(rand.NewSource(14))
	e := problem.Env(world + tuples)
	count := map[api.Errno]int{}
	for range 4000 {
		m := newMaker(r, e)
		c, ok := m.matrix(r.Intn(2) == 0, true)
		if !ok {
			continue
		}
		if r.Intn(3) == 0 {
			m.more(&c)
		}
		if r.Intn(4) == 0 {
			c.rows = deep(c.rows)
			spoiled(r, reflect.ValueOf(&c.rows).Elem())
		}
		want, e1 := (&word{env: e}).missingOf(c)
		got, e2 := Missing(e, c.rigids, c.columns, c.rows, c.guarded)
		if e1 != e2 || showRows(got) != showRows(want) {
			t.Fatal(problem.Types(c.columns), showRows(c.rows), c.guarded, "missing", showRows(got), e2, "not", showRows(want), e1)
		}
		wanted, e1 := (&word{env: e}).uselessOf(c)
		useless, e2 := Useless(e, c.rigids, c.columns, c.rows, c.guarded)
		if e1 != e2 || !slices.Equal(useless, wanted) {
			t.Fatal(problem.Types(c.columns), showRows(c.rows), c.guarded, "useless", useless, e2, "not", wanted, e1)
		}
		count[e1]++
		count[e2]++
	}
	for _, e := range []api.Errno{api.OK, api.ErrType, api.ErrForm, api.ErrFuel} {
		if count[e] < 10 {
			t.Error("too few with this error:", e, count)
		}
	}
}

// more adds many rows of the same columns, for which there are more matrices to look at.
func (m *maker) more(c *case_) {
	for range m.Intn(100) {
		var row []api.Pat
		for _, p := range c.values[m.Intn(len(c.values))] {
			row = append(row, m.pattern(p, true))
		}
		c.rows, c.guarded = append(c.rows, row), append(c.guarded, m.Intn(5) == 0)
	}
}

// spoiled puts constructors and numbers where they do not belong.
func spoiled(r *rand.Rand, v reflect.Value) {
	switch v.Kind() {
	case reflect.Slice:
		for i := range v.Len() {
			spoiled(r, v.Index(i))
		}
	case reflect.Struct:
		args := v.FieldByName("Args")
		spoiled(r, args)
		if v.FieldByName("Op").Int() == api.PCon && r.Intn(8) == 0 {
			args.Set(reflect.AppendSlice(args.Slice3(0, 0, 0), reflect.ValueOf(wildRow(r.Intn(3)))))
		}
		if r.Intn(12) == 0 {
			l := pats("True 1 Z S (S _) VNil Nil (Cons x y) A (Pair x y) TInt Refl No")
			v.Set(reflect.ValueOf(l[r.Intn(len(l))]))
		}
	}
}
