package pipe

import (
	"slices"
)

// queue is bytes that came, of which the first ones have gone on. Those are kept too, since they can be asked for later.
type queue struct {
	came []byte
	gone int
}

// put lays s behind what came.
func (q *queue) put(s string) {
	q.came = append(q.came, s...)
}

// pass lets the next bytes go on, at most so many, and gives them.
func (q *queue) pass(most int) string {
	from := q.gone
	q.gone += min(max(most, 0), q.left())
	return string(q.came[from:q.gone])
}

// left tells how many bytes have not gone on.
func (q *queue) left() int {
	return len(q.came) - q.gone
}

// drop takes away what has not gone on. What went on is laid anew, so that the rest is not kept behind it.
func (q *queue) drop() {
	q.came = slices.Clone(q.came[:q.gone])
}

// passed gives all that has gone on.
func (q *queue) passed() string {
	return string(q.came[:q.gone])
}

// all gives all that came.
func (q *queue) all() string {
	return string(q.came)
}
