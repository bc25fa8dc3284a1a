package cover

// list is one from whose front items are taken: it shares its rest with others, since a matrix can have many columns that are not looked at for long.
type list[T any] struct {
	first T
	rest  *list[T]
}

// before puts items before a list.
func before[T any](items []T, l *list[T]) *list[T] {
	for i := range items {
		l = &list[T]{items[len(items)-1-i], l}
	}
	return l
}

// taken returns the first n items of a list, and its rest.
func taken[T any](l *list[T], n int) ([]T, *list[T]) {
	var items []T
	for range n {
		items, l = append(items, l.first), l.rest
	}
	return items, l
}

// chosen returns what a function makes of those items of a list that it chooses.
func chosen[T, U any](l []T, choose func(item T) (U, bool)) []U {
	var made []U
	for _, item := range l {
		if u, ok := choose(item); ok {
			made = append(made, u)
		}
	}
	return made
}
