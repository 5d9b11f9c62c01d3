package tourney

// queue is a heap, for package heap: the first of its elements in the order of less is
// taken first.
type queue[E any] struct {
	l    []E
	less func(a, b E) bool
}

// Len returns the number of elements.
func (q *queue[E]) Len() int {
	return len(q.l)
}

// Less reports whether the element at i comes before the one at j.
func (q *queue[E]) Less(i, j int) bool {
	return q.less(q.l[i], q.l[j])
}

// Swap exchanges the elements at i and j.
func (q *queue[E]) Swap(i, j int) {
	q.l[i], q.l[j] = q.l[j], q.l[i]
}

// Push appends an element.
func (q *queue[E]) Push(x any) {
	q.l = append(q.l, x.(E))
}

// Pop removes the last element and returns it.
func (q *queue[E]) Pop() any {
	last := len(q.l) - 1
	x := q.l[last]
	q.l = q.l[:last]
	return x
}
