package due

import (
	"cmp"
	"container/heap"
	"iter"
)

// entry is a key with its tick.
type entry[K cmp.Ordered] struct {
	key  K
	tick int
}

// before is the order: by ticks, of one tick by keys.
func (e entry[K]) before(other entry[K]) bool {
	if e.tick != other.tick {
		return e.tick < other.tick
	}
	return e.key < other.key
}

// row is entries in the order of a heap: none of the two that hang on one, at 2i+1 and 2i+2 on that at i, comes before it. Its methods are those that container/heap moves it by.
type row[K cmp.Ordered] struct {
	entries []entry[K]
	place   map[K]int // where each key stands, so that it is found without a search
}

func (r *row[K]) Len() int {
	return len(r.entries)
}

func (r *row[K]) Less(i, j int) bool {
	return r.entries[i].before(r.entries[j])
}

func (r *row[K]) Swap(i, j int) {
	r.entries[i], r.entries[j] = r.entries[j], r.entries[i]
	r.place[r.entries[i].key] = i
	r.place[r.entries[j].key] = j
}

func (r *row[K]) Push(x any) {
	if r.place == nil {
		r.place = map[K]int{}
	}
	e := x.(entry[K])
	r.place[e.key] = len(r.entries)
	r.entries = append(r.entries, e)
}

func (r *row[K]) Pop() any {
	end := len(r.entries) - 1
	e := r.entries[end]
	r.entries[end] = entry[K]{} // else the key would be kept behind the row's end
	r.entries = r.entries[:end]
	delete(r.place, e.key)
	return e
}

// rising goes over the entries in their order, as long as the row is left as it is. It looks at no more of them than it has to: the next one hangs on one that came, or is the first.
func (r *row[K]) rising() iter.Seq[entry[K]] {
	return func(yield func(entry[K]) bool) {
		near := &edge[K]{entries: r.entries}
		near.reach(0)
		for near.Len() > 0 {
			at := heap.Pop(near).(int)
			if !yield(r.entries[at]) {
				return
			}
			near.reach(2*at + 1)
			near.reach(2*at + 2)
		}
	}
}

// edge is the places of a row at which the next entry may stand, in the order of a heap.
type edge[K cmp.Ordered] struct {
	entries []entry[K]
	places  []int
}

// reach adds a place, if the row goes so far.
func (g *edge[K]) reach(at int) {
	if at < len(g.entries) {
		heap.Push(g, at)
	}
}

func (g *edge[K]) Len() int {
	return len(g.places)
}

func (g *edge[K]) Less(i, j int) bool {
	return g.entries[g.places[i]].before(g.entries[g.places[j]])
}

func (g *edge[K]) Swap(i, j int) {
	g.places[i], g.places[j] = g.places[j], g.places[i]
}

func (g *edge[K]) Push(x any) {
	g.places = append(g.places, x.(int))
}

func (g *edge[K]) Pop() any {
	end := len(g.places) - 1
	at := g.places[end]
	g.places = g.places[:end]
	return at
}
