package equate

// Memo keeps what was found of implications, until a further metavariable is solved.
type Memo[T any] struct {
	solved int
	found  map[int]T
}

// Find returns what a function finds of an implication, or has found before.
func (m *Memo[T]) Find(w *Worker, imp int, find func(imp int) T) T {
	if m.found == nil || m.solved != w.Solved {
		m.found, m.solved = map[int]T{}, w.Solved
	}
	result, ok := m.found[imp]
	if !ok {
		result = find(imp)
		m.found[imp] = result
	}
	return result
}
