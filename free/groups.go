package free

import (
	"cmp"
	"container/heap"
	"slices"

	"damask/api"
)

// Groups returns the groups of the DBinds of a list, by their positions: each stands behind those that it reaches. A DBind reaches those without a DSig that it names, and those that they reach.
func Groups(l []api.Decl) [][]int {
	binds, reached := reachable(l)
	w := &walk{next: map[int][]int{}, low: map[int]int{}, group: map[int]int{}}
	if len(binds) > 1 && len(reached) > 0 { // else nothing is reached from elsewhere: what can be nested deeply is not searched for nothing
		for _, i := range binds {
			s := newSearch()
			s.alts(l[i].Alts)
			for _, name := range s.names() {
				w.next[i] = append(w.next[i], reached[name]...)
			}
		}
	}
	for _, i := range binds {
		if _, been := w.low[i]; !been {
			w.from(i)
		}
	}
	return w.inOrder()
}

// reachable returns the positions of the DBinds of a list, and of those without a DSig by their names.
func reachable(l []api.Decl) ([]int, map[string][]int) {
	signed := map[string]bool{}
	for i := range l {
		if l[i].Op == api.DSig {
			signed[l[i].Name] = true
		}
	}
	var binds []int
	positions := map[string][]int{}
	for i := range l {
		if l[i].Op != api.DBind {
			continue
		}
		binds = append(binds, i)
		if !signed[l[i].Name] {
			positions[l[i].Name] = append(positions[l[i].Name], i)
		}
	}
	return binds, positions
}

// walk goes from each DBind to those that it names. What it has come to, but whose group is not known yet, is on a stack.
type walk struct {
	next  map[int][]int
	low   map[int]int // the earliest one that is known to be reached; each has a number in the order of the walk
	stack []int
	made  [][]int
	group map[int]int // the position of a group in made
}

// step is where the walk has come to: it has gone on from there to so many of those that can be next.
type step struct{ at, number, height, gone int }

// come steps to a DBind for the first time.
func (w *walk) come(i int) step {
	s := step{at: i, number: len(w.low), height: len(w.stack)}
	w.low[i] = s.number
	w.stack = append(w.stack, i)
	return s
}

// from goes on from each DBind until all that it names are known: what it has gone to is looked at again when the walk is back.
func (w *walk) from(first int) {
	way := []step{w.come(first)}
walk:
	for len(way) > 0 {
		s := &way[len(way)-1]
		for _, n := range w.next[s.at][s.gone:] {
			if _, been := w.low[n]; !been {
				way = append(way, w.come(n))
				continue walk
			}
			s.gone++
			if _, done := w.group[n]; !done {
				w.low[s.at] = min(w.low[s.at], w.low[n])
			}
		}
		w.end(s)
		way = way[:len(way)-1]
	}
}

// end makes a group of what is on the stack since a step, if none of it reaches anything before.
func (w *walk) end(s *step) {
	if w.low[s.at] < s.number {
		return
	}
	members := slices.Sorted(slices.Values(w.stack[s.height:]))
	w.stack = w.stack[:s.height]
	for _, n := range members {
		w.group[n] = len(w.made)
	}
	w.made = append(w.made, members)
}

// ready are groups that can be next, as a heap.
type ready [][]int

func (r ready) Len() int           { return len(r) }
func (r ready) Less(i, j int) bool { return cmp.Less(r[i][0], r[j][0]) }
func (r ready) Swap(i, j int)      { r[i], r[j] = r[j], r[i] }

// Push adds a group at the end.
func (r *ready) Push(x any) { *r = append(*r, x.([]int)) }

// Pop takes the last group out.
func (r *ready) Pop() any {
	last := len(*r) - 1
	x := (*r)[last]
	*r = (*r)[:last]
	return x
}

// inOrder puts each group behind those that it reaches, the ones with the smallest positions first.
func (w *walk) inOrder() [][]int {
	waits := map[int]int{}    // for how many edges to other groups a group waits
	wanted := map[int][]int{} // the groups that wait for a group, once for each edge
	for i, l := range w.next {
		for _, n := range l {
			if from, to := w.group[i], w.group[n]; from != to {
				waits[from]++
				wanted[to] = append(wanted[to], from)
			}
		}
	}
	next := &ready{}
	for g, members := range w.made {
		if waits[g] == 0 {
			heap.Push(next, members)
		}
	}
	var l [][]int
	for next.Len() > 0 {
		members := heap.Pop(next).([]int)
		l = append(l, members)
		for _, g := range wanted[w.group[members[0]]] {
			if waits[g]--; waits[g] == 0 {
				heap.Push(next, w.made[g])
			}
		}
	}
	return l
}
