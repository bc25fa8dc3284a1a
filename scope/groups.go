package scope

import (
	"cmp"
	"maps"
	"slices"

	"damask/api"
)

// search goes through expressions for the variables that nothing in them binds.
type search struct {
	walker
	found map[string]bool
}

func newSearch() *search {
	s := &search{found: map[string]bool{}}
	s.walker = walker{expr: s.look, pats: asIs, decls: s.likeBefore}
	return s
}

func (s *search) look(f *frame, e *api.Expr) api.Expr {
	switch e.Op {
	case api.XVar:
		s.note(f, e.S)
	case api.XOps:
		for _, name := range e.Fields {
			s.note(f, name)
		}
	case api.XDo:
		d := undone(e.Stmts)
		return s.look(f, &d)
	}
	return s.parts(f, e)
}

func (s *search) note(f *frame, name string) {
	if _, bound := f.find(name); !bound {
		s.found[name] = true
	}
}

// groups finds the groups of the DBinds of a list.
func groups(l []api.Decl) [][]int {
	signed := scopedNames(l)
	positions := map[string][]int{} // of what can be reached
	for i, d := range l {
		if _, known := signed[d.Name]; d.Op == api.DBind && !known {
			positions[d.Name] = append(positions[d.Name], i)
		}
	}
	w := &walk{next: map[int][]int{}, low: map[int]int{}, group: map[int]int{}}
	for i, d := range l {
		if d.Op == api.DBind {
			s := newSearch()
			s.alts(nil, d.Alts)
			for _, name := range slices.Sorted(maps.Keys(s.found)) {
				w.next[i] = append(w.next[i], positions[name]...)
			}
		}
	}
	for i, d := range l {
		if _, been := w.low[i]; d.Op == api.DBind && !been {
			w.from(i)
		}
	}
	return w.inOrder()
}

// walk goes from each DBind to those that it names. What it has come to, but whose group is not known yet, is on a stack.
type walk struct {
	next  map[int][]int
	low   map[int]int // the earliest one that is known to be reached; each has a number in the order of the walk
	stack []int
	made  [][]int
	group map[int]int // the position of a group in made
}

func (w *walk) from(i int) {
	number := len(w.low)
	w.low[i] = number
	height := len(w.stack)
	w.stack = append(w.stack, i)
	for _, n := range w.next[i] {
		if _, been := w.low[n]; !been {
			w.from(n)
		}
		if _, done := w.group[n]; !done {
			w.low[i] = min(w.low[i], w.low[n])
		}
	}
	if w.low[i] < number {
		return
	}
	members := slices.Sorted(slices.Values(w.stack[height:]))
	w.stack = w.stack[:height]
	for _, n := range members {
		w.group[n] = len(w.made)
	}
	w.made = append(w.made, members)
}

// inOrder puts each group behind those that it reaches, the ones with the smallest positions first.
func (w *walk) inOrder() [][]int {
	byPosition := slices.SortedFunc(slices.Values(w.made), func(a, b []int) int { return cmp.Compare(a[0], b[0]) })
	done := map[int]bool{}
	var l [][]int
search:
	for len(l) < len(byPosition) {
	candidates:
		for _, members := range byPosition {
			group := w.group[members[0]]
			if done[group] {
				continue
			}
			for _, i := range members {
				for _, n := range w.next[i] {
					if g := w.group[n]; g != group && !done[g] {
						continue candidates
					}
				}
			}
			done[group] = true
			l = append(l, members)
			continue search
		}
	}
	return l
}
