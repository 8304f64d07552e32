package due

import (
	"math/rand"
	"slices"
	"testing"

	"covenant/api"
)

// spoil writes over a list and over the spare room behind it.
func spoil[K any](list []K, with K) {
	list = list[:cap(list)]
	for i := range list {
		list[i] = with
	}
}

// R4: what is handed out is new memory, spare room too: whatever is written there changes neither the index nor another answer.
func TestNewMemory(t *testing.T) { over(t, tests.newMemory) }

func (k keys[K]) newMemory(t *testing.T) {
	ticks := []int{1, 1, 2, 3, 5, 4}
	x := k.made(t, ticks...)
	all := x.All()
	kept := x.Peek(9, 3)
	spoil(x.Peek(9, 3), k[5])
	spoil(x.Peek(9, 9), k[5])
	k.lists(t, "Peek ahead", kept, 0, 1, 2)
	k.lists(t, "Peek behind", x.Peek(9, 3), 0, 1, 2)
	k.holds(t, x, ticks...)

	taken := x.Take(1, 9)
	left := x.Peek(9, 9)
	spoil(taken, k[5])
	k.lists(t, "Peek behind Take", left, 2, 3, 5, 4)
	k.holds(t, x, -1, -1, 2, 3, 5, 4)
	taken = x.Take(3, 9)
	x.Set(k[0], 0)
	x.Set(k[1], 0)
	k.lists(t, "Take ahead of Set", taken, 2, 3)

	var got []K
	for key := range all {
		got = append(got, key)
	}
	k.lists(t, "All", got, 0, 1, 2, 3, 5, 4)
}

// What is there no more is not kept, behind the row's end neither.
func TestLetGo(t *testing.T) { over(t, tests.letGo) }

func (k keys[K]) letGo(t *testing.T) {
	x := k.made(t, 4, 3, 2, 2, 3, 4)
	x.Drop(k[1])
	x.Take(2, 1)
	x.Take(9, 2)
	if len(x.row.entries) != 2 || len(x.row.place) != 2 {
		t.Errorf("kept: %v %v", x.row.entries, x.row.place)
	}
	for _, e := range x.row.entries[len(x.row.entries):cap(x.row.entries)] {
		if e != (entry[K]{}) {
			t.Errorf("kept behind the end: %v", e)
		}
	}
}

// Many calls about many keys take their time once, and little of the index is gone over for few of its keys.
func TestMuch(t *testing.T) {
	const many = 1 << 17
	x := New[int]()
	r := rand.New(rand.NewSource(7))
	ticks := make([]int, many)
	for range 2 {
		for i := range ticks {
			ticks[i] = r.Intn(many)
			x.Set(i, ticks[i])
		}
	}
	order := make([]int, many)
	for i := range order {
		order[i] = i
	}
	slices.SortStableFunc(order, func(a, b int) int { return ticks[a] - ticks[b] })
	var got []int
	for len(got) < many/2 {
		first := x.Peek(api.MaxTick, 4)
		if key, _, _ := x.Next(); !slices.Equal(first, order[len(got):len(got)+4]) || key != first[0] {
			t.Fatalf("Peek behind %d: %v, Next %d, not %v", len(got), first, key, order[len(got):len(got)+4])
		}
		got = append(got, x.Take(api.MaxTick, 4)...)
	}
	for i := len(got); i < many; i += 2 {
		if !x.Drop(order[i]) {
			t.Fatalf("Drop(%d): false", order[i])
		}
		got = append(got, order[i])
	}
	if len(pairs(x)) != many/4 || x.Len() != many/4 {
		t.Errorf("left: %d", x.Len())
	}
	got = append(got, x.Take(many, many)...)
	slices.Sort(got)
	if len(got) != many || got[0] != 0 || got[many-1] != many-1 || len(slices.Compact(got)) != many || x.Len() != 0 {
		t.Errorf("told: %d, left: %d", len(got), x.Len())
	}
}
