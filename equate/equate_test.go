package equate

import (
	"slices"
	"testing"

	"damask/api"
	"damask/internal/problem"
	"damask/internal/text"
	"damask/types"
)

// TestQueue: what comes to the front while the queue is gone through is next, in its order.
func TestQueue(t *testing.T) {
	q := queue[int]{rest: []int{1, 2, 3}}
	var l []int
	for n := range q.all() {
		l = append(l, n)
		switch n {
		case 1:
			q.toFront(10, 20)
		case 10:
			q.toFront(11)
			q.toFront()
		}
	}
	if !slices.Equal(l, []int{1, 10, 11, 20, 2, 3}) {
		t.Error(l)
	}
	q = queue[int]{rest: []int{1, 2}}
	q.toFront(7, 8)
	for range q.all() {
		break
	}
	for n := range q.all() {
		if n != 8 {
			t.Error(n)
		}
		break
	}
	if l := slices.Collect(q.all()); !slices.Equal(l, []int{1, 2}) {
		t.Error(l)
	}
}

// TestMemo: what was found is found anew after a metavariable is solved.
func TestMemo(t *testing.T) {
	p := problem.Read("meta Type; imp -1: ;")
	w := New(&api.Env{}, &p)
	var m Memo[int]
	asked := 0
	find := func(imp int) int {
		asked++
		return 100*imp + asked
	}
	for i, row := range []struct{ imp, want int }{{0, 1}, {0, 1}, {1, 102}, {0, 1}, {1, 102}} {
		if n := m.Find(w, row.imp, find); n != row.want {
			t.Error(i, n)
		}
	}
	w.Unify(Outside, text.Type("m0"), text.Type("Int"))
	for i, row := range []struct{ imp, want int }{{1, 103}, {0, 4}, {1, 103}} {
		if n := m.Find(w, row.imp, find); n != row.want {
			t.Error(i, n)
		}
	}
}

// TestNew: a problem stays as it is, whatever a worker does.
func TestNew(t *testing.T) {
	p := problem.Read("meta Type @1; rigid Type; imp -1: Eq r0; imp 0: r0 ~ Int, Eq m0;")
	before := problem.Show(p)
	w := New(&api.Env{}, &p)
	left := w.Unify(Outside, text.Type("(forall a. m0) -> m0"), text.Type("(forall a. Int) -> Bool"))
	if problem.Show(p) != before || w.Solved != 1 || len(w.Rigids) != 2 || len(left) != 1 || show(w.Resolve(text.Type("m0"))) != "Int" {
		t.Error(problem.Show(p), w.Solved, w.Rigids, left)
	}
	if l := w.Chain(1); !slices.Equal(l, []int{0, 1}) || w.Chain(Outside) != nil || len(w.Equations(1)) != 1 || len(w.Equations(0)) != 0 || w.Level(1) != 2 || w.Level(Outside) != 0 {
		t.Error(l)
	}
}

func show(t api.Type) string { return text.Show(t) }

// TestSides: an equation is `~` applied to two types, and nothing else.
func TestSides(t *testing.T) {
	for s, want := range map[string]bool{"Int ~ Bool": true, "(Int ~ Bool) Int": false, "Eq Int": false, "Pair Int Bool": false, "Int": false, "m0 Int Bool": false, "forall a. a ~ a": false, "Int ~ Bool => Int": false} {
		sides, ok := Sides(text.Type(s))
		if ok != want || ok && (show(sides.Left) != "Int" || show(sides.Right) != "Bool" || !types.Same(equation(sides.Left, sides.Right), text.Type(s))) {
			t.Error(s, sides, ok)
		}
	}
}
