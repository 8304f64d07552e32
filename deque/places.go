package deque

// Deque is a list with two ends: elements in a row, with free places ahead of them and behind them.
type Deque[T comparable] struct {
	places   []T // the free ones hold zero values, so that nothing is kept that was let go
	from, to int // where the elements begin, and where they have ended
}

// held is the elements where they stand.
func (d *Deque[T]) held() []T {
	if d == nil {
		return nil
	}
	return d.places[d.from:d.to]
}

// free sees to it that so many places are free ahead of the elements and behind them. If they are not, as many more are made on either side as there will be elements: then a move of all comes only behind as many pushes.
func (d *Deque[T]) free(ahead, behind int) {
	if ahead > d.from || behind > len(d.places)-d.to {
		d.lay(ahead + d.Len() + behind)
	}
}

// lay moves the elements to new places, with so many free ones on either side.
func (d *Deque[T]) lay(spare int) {
	held := d.held()
	end := spare + len(held)
	places := make([]T, end+spare)
	copy(places[spare:], held)
	d.places, d.from, d.to = places, spare, end
}

// keep leaves the elements from a place on, up to an end, alone. Where they are few for the places that there are, they move to fewer.
func (d *Deque[T]) keep(from, end int) {
	if d == nil {
		return
	}
	held := d.held()
	clear(held[:from])
	clear(held[end:])
	d.from, d.to = d.from+from, d.from+end
	if len(d.places) > 8*(d.Len()+8) {
		d.lay(d.Len())
	}
}

// drop takes away what stands at these places, which rise.
func (d *Deque[T]) drop(places []int) {
	held := d.held()
	left := 0
	for i, v := range held {
		if len(places) > 0 && i == places[0] {
			places = places[1:]
			continue
		}
		held[left] = v
		left++
	}
	d.keep(0, left)
}

// place is the place that a number means, and whether there is one.
func (d *Deque[T]) place(i int) (int, bool) {
	if i < 0 {
		i += d.Len()
	}
	return i, i >= 0 && i < d.Len()
}

// piece is where a piece begins and where it has ended, if both its places are with it.
func (d *Deque[T]) piece(from, to int) (int, int) {
	if from < 0 {
		from += d.Len()
	}
	if to < 0 {
		to += d.Len()
	}
	from, to = max(from, 0), min(to, d.Len()-1)
	if from > to {
		return 0, 0
	}
	return from, to + 1
}

// fresh is a list of its own with these elements.
func fresh[T any](l []T) []T {
	return append([]T(nil), l...)
}

// within is a count that is neither below 0 nor past what there is.
func within(n, all int) int {
	return min(max(n, 0), all)
}

// isItself says whether v is the same as v. A float that is no number is not; nor is what an interface holds and == panics at, such as a slice. What is not itself is nothing else either, and what is itself can be held against anything without a panic, so that it is enough to ask once.
func isItself[T comparable](v T) (is bool) {
	defer func() {
		recover()
	}()
	return v == v
}
