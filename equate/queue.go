package equate

import (
	"iter"
	"slices"
)

// queue is a list to whose front further items can come while it is gone through.
type queue[T any] struct {
	front []T // the first one is the last one here
	rest  []T
}

func (q *queue[T]) toFront(l ...T) {
	for _, item := range slices.Backward(l) {
		q.front = append(q.front, item)
	}
}

// all takes items out, as long as there are some.
func (q *queue[T]) all() iter.Seq[T] {
	return func(yield func(T) bool) {
		for len(q.front)+len(q.rest) > 0 {
			if !yield(q.first()) {
				return
			}
		}
	}
}

func (q *queue[T]) first() T {
	if last := len(q.front) - 1; last >= 0 {
		item := q.front[last]
		q.front = q.front[:last]
		return item
	}
	item := q.rest[0]
	q.rest = q.rest[1:]
	return item
}
