package lines

import "slices"

// queue is what waits in a row: what came first goes first.
type queue[T any] struct {
	items []T
	first int // ahead of it all was taken, and is cleared
}

// count tells how many wait.
func (q *queue[T]) count() int { return len(q.items) - q.first }

// put puts x behind all that wait.
func (q *queue[T]) put(x T) { q.items = append(q.items, x) }

// take puts the first ones, so many at most, behind those of out; they wait no more.
func (q *queue[T]) take(out []T, most int) []T {
	n := max(0, min(most, q.count()))
	taken := q.items[q.first : q.first+n]
	out = append(out, taken...)
	// Their places stay for a while: nothing of what was taken is to stay in them.
	clear(taken)
	q.first += n
	// Not before more places are idle than are not: so no more is moved than was taken.
	if q.first > q.count() {
		q.pack()
	}
	return out
}

// drop lets go of those that are meant, and tells how many these were.
func (q *queue[T]) drop(meant func(T) bool) int {
	before := q.count()
	stay := slices.DeleteFunc(q.items[q.first:], meant)
	n := before - len(stay)
	if n > 0 {
		q.items = q.items[:q.first+len(stay)]
		q.pack()
	}
	return n
}

// pack moves what waits to as few places as it takes.
func (q *queue[T]) pack() {
	*q = queue[T]{items: append([]T(nil), q.items[q.first:]...)}
}
