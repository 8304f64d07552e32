package deque

import (
	"slices"
	"testing"
)

// spoil writes over a list and over the spare room behind it.
func spoil[T any](list []T, with T) {
	list = list[:cap(list)]
	for i := range list {
		list[i] = with
	}
}

// R4: what is handed out is new memory, spare room too: whatever is written there changes neither the list nor another answer.
func TestNewMemory(t *testing.T) { over(t, tests.newMemory) }

func (k things[T]) newMemory(t *testing.T) {
	const row = "abcbd"
	for what, ask := range map[string]func(d *Deque[T]) []T{
		"List":         func(d *Deque[T]) []T { return d.List() },
		"Slice":        func(d *Deque[T]) []T { return d.Slice(1, 3) },
		"Slice whole":  func(d *Deque[T]) []T { return d.Slice(0, -1) },
		"Slice empty":  func(d *Deque[T]) []T { return d.Slice(2, 1) },
		"PopFront":     func(d *Deque[T]) []T { return d.PopFront(2) },
		"PopFront 0":   func(d *Deque[T]) []T { return d.PopFront(0) },
		"PopFront all": func(d *Deque[T]) []T { return d.PopFront(9) },
		"PopBack":      func(d *Deque[T]) []T { return d.PopBack(2) },
		"PopBack 0":    func(d *Deque[T]) []T { return d.PopBack(0) },
		"PopBack all":  func(d *Deque[T]) []T { return d.PopBack(9) },
	} {
		d := k.made(row)
		all, list := d.All(), d.List()
		got, twin := ask(d), ask(k.made(row))
		left := k.letters(d.List())
		spoil(got, k[5])
		k.holds(t, what+" written over", d, left)
		k.tells(t, what+": the List ahead", list, row)
		k.tells(t, what+": the All ahead", gone(all), row)
		again := k.letters(twin)
		d.PushFront(k.row("ee")...)
		d.PushBack(k.row("ee")...)
		d.Put(2, k[5])
		k.tells(t, what+" of another list", twin, again)
	}
	d := k.made(row)
	found := d.Find(k[1], 1, 0, 0)
	spoil(d.Find(k[1], 1, 0, 0), -1)
	d.PopFront(3)
	if !slices.Equal(found, []int{1, 3}) {
		t.Errorf("Find: %v", found)
	}
}

// R4: an answer stays as it is, whatever is done to the list behind it.
func TestAnswersStay(t *testing.T) {
	d := Of(1, 2, 3, 4, 5, 6)
	lists := [][]int{d.List(), d.Slice(1, -2), d.PopFront(2), d.PopBack(1), d.List()}
	was := make([][]int, len(lists))
	for i := range lists {
		was[i] = slices.Clone(lists[i])
	}
	for i := range d.Len() {
		d.Put(i, -1)
	}
	d.PushFront(7, 8, 9)
	d.PushBack(7, 8, 9)
	d.Remove(0, -1)
	d.Insert(true, 7, -2)
	d.Trim(1, 2)
	for i := range lists {
		if !slices.Equal(lists[i], was[i]) {
			t.Errorf("answer %d became %v, it was %v", i, lists[i], was[i])
		}
	}
}

// R4: what is handed in is neither changed nor kept, what lies behind its end neither.
func TestNotKept(t *testing.T) { over(t, tests.notKept) }

func (k things[T]) notKept(t *testing.T) {
	for what, hand := range map[string]func(l []T) *Deque[T]{
		"Of":        func(l []T) *Deque[T] { return Of(l...) },
		"PushFront": func(l []T) *Deque[T] { d := k.made(""); d.PushFront(l...); return d },
		"PushBack":  func(l []T) *Deque[T] { d := k.made(""); d.PushBack(l...); return d },
		"PushFront on some": func(l []T) *Deque[T] {
			d := k.made("ee")
			d.PushBack(k.row("ab")...)
			d.PopFront(3)
			d.PopBack(1)
			d.PushFront(l...)
			return d
		},
		"PushBack on some": func(l []T) *Deque[T] { d := k.made("e"); d.PopBack(1); d.PushBack(l...); return d },
	} {
		room := k.row("abcdef")
		d := hand(room[1:4])
		held := k.letters(d.List())
		spoil(room, k[5])
		k.holds(t, what+" behind a change of what was handed in", d, held)

		room = k.row("abcdef")
		d = hand(room[1:4])
		d.PushBack(k[0])
		d.PushFront(k[0])
		d.Put(1, k[5])
		d.Put(-2, k[5])
		d.Insert(true, k[0], k[4])
		d.Remove(0, k[2])
		d.PopFront(2)
		d.Trim(1, -2)
		k.tells(t, what+": what was handed in", room, "abcdef")
	}
}

// kept fails unless the free places of a list hold zero values and are not many more than its elements need.
func kept[T comparable](t *testing.T, what string, d *Deque[T]) {
	t.Helper()
	free := slices.Concat(d.places[:d.from], d.places[d.to:cap(d.places)])
	for _, v := range free {
		if v != *new(T) {
			t.Fatalf("%s: %#v is kept", what, v)
		}
	}
	if len(d.places) > 8*(d.Len()+8) {
		t.Errorf("%s: %d places for %d elements", what, len(d.places), d.Len())
	}
}

// Places that are let go are cleared, and go themselves where they are many.
func TestLetGo(t *testing.T) { over(t, tests.letGo) }

func (k things[T]) letGo(t *testing.T) {
	row := k.row("bcdef")
	for what, do := range map[string]func(d *Deque[T]){
		"PopFront":     func(d *Deque[T]) { d.PopFront(2) },
		"PopFront all": func(d *Deque[T]) { d.PopFront(999) },
		"PopBack":      func(d *Deque[T]) { d.PopBack(2) },
		"PopBack all":  func(d *Deque[T]) { d.PopBack(999) },
		"Trim":         func(d *Deque[T]) { d.Trim(1, -2) },
		"Trim to one":  func(d *Deque[T]) { d.Trim(1, 1) },
		"Trim all":     func(d *Deque[T]) { d.Trim(1, 0) },
		"Remove":       func(d *Deque[T]) { d.Remove(1, k[2]) },
		"Remove last":  func(d *Deque[T]) { d.Remove(-2, k[2]) },
		"Remove all":   func(d *Deque[T]) { d.Remove(0, k[2]) },
		"Insert":       func(d *Deque[T]) { d.Insert(true, k[3], k[2]); d.PopFront(1) },
		"pushes":       func(d *Deque[T]) { d.PushFront(row...); d.PopFront(3); d.PushBack(row...); d.PopBack(3) },
	} {
		for _, times := range []int{1, 2, 40} {
			for end := range 3 {
				d := Of[T]()
				for range times {
					if end != 0 {
						d.PushFront(row...)
					}
					if end != 1 {
						d.PushBack(row...)
					}
				}
				do(d)
				kept(t, what, d)
				do(d)
				kept(t, what+" again", d)
			}
		}
	}
}

// moves counts how often the elements move to other places while a list is worked on.
type moves struct {
	d     *Deque[int]
	at    *int
	count int
}

func (m *moves) look() {
	if at := &m.d.places[:1][0]; at != m.at {
		m.at = at
		m.count++
	}
}

// Many pushes and pops on a long list take their time once: all of it moves seldom, whichever ends they are at.
func TestMuch(t *testing.T) {
	const many, turns = 1 << 16, 1 << 19
	for what, turn := range map[string]func(d *Deque[int], i int){
		"at the front":    func(d *Deque[int], i int) { d.PushFront(i); d.PopFront(1) },
		"at the back":     func(d *Deque[int], i int) { d.PushBack(i); d.PopBack(1) },
		"front to back":   func(d *Deque[int], i int) { d.PushBack(d.PopFront(1)...) },
		"back to front":   func(d *Deque[int], i int) { d.PushFront(d.PopBack(1)...) },
		"both grow":       func(d *Deque[int], i int) { d.PushFront(i); d.PushBack(i) },
		"both by turns":   func(d *Deque[int], i int) { d.PushFront(i, i); d.PushBack(d.PopBack(2)...); d.PopFront(2) },
		"here, then back": func(d *Deque[int], i int) { d.PushBack(i); d.PopFront(i % 2 * 2); d.At(i % many) },
	} {
		d := Of(make([]int, many)...)
		m := &moves{d: d}
		for i := range turns {
			turn(d, i)
			if m.look(); m.count > 20 {
				t.Fatalf("%s: %d moves within %d turns", what, m.count, i)
			}
		}
		if d.Len() < many-2 {
			t.Errorf("%s: Len %d", what, d.Len())
		}
	}
}

// A list grows from nothing and becomes nothing by few moves too.
func TestGrowAndShrink(t *testing.T) {
	const many = 1 << 18
	d := Of[int]()
	m := &moves{d: d}
	for range 2 {
		for i := range many {
			d.PushBack(i)
			m.look()
		}
		for i := range many {
			if got := d.PopFront(1); len(got) != 1 || got[0] != i {
				t.Fatalf("PopFront: %v, not %d", got, i)
			}
			m.look()
		}
	}
	if m.count > 100 || d.Len() != 0 {
		t.Errorf("%d moves, Len %d", m.count, d.Len())
	}
	kept(t, "at the end", d)
}
