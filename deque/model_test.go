package deque

import (
	"fmt"
	"math"
	"math/rand"
	"slices"
	"strings"
	"testing"
)

// call is one call that may change a list; its elements are told by their letters.
type call struct {
	what string
	i, j int
	l    string
}

// do is the call of a list, and all that it answers.
func (k things[T]) do(d *Deque[T], c call) string {
	l := k.row(c.l)
	switch c.what {
	case "pushFront":
		d.PushFront(l...)
	case "pushBack":
		d.PushBack(l...)
	case "popFront":
		return k.letters(d.PopFront(c.i))
	case "popBack":
		return k.letters(d.PopBack(c.i))
	case "put":
		return fmt.Sprint(d.Put(c.i, l[0]))
	case "trim":
		d.Trim(c.i, c.j)
	case "remove":
		return fmt.Sprint(d.Remove(c.i, l[0]))
	case "insert":
		return fmt.Sprint(d.Insert(c.i > 0, l[0], l[1]))
	}
	return ""
}

// model is a list by the chapter's words, told another way: a text of letters.
type model string

func (m *model) do(c call) string {
	s := string(*m)
	told := ""
	switch c.what {
	case "pushFront":
		s = turned(c.l) + s
	case "pushBack":
		s += c.l
	case "popFront":
		told = beginning(s, c.i)
		s = strings.TrimPrefix(s, told)
	case "popBack":
		told = beginning(turned(s), c.i)
		s = strings.TrimSuffix(s, turned(told))
	case "put":
		b := []byte(s)
		for i := range b {
			if i == c.i || i-len(b) == c.i {
				b[i] = c.l[0]
				told = "true"
			}
		}
		if told == "" {
			told = "false"
		}
		s = string(b)
	case "trim":
		s = m.piece(c.i, c.j)
	case "remove":
		left := m.without(c.i, c.l)
		told = fmt.Sprint(len(s) - len(left))
		s = left
	case "insert":
		told = "-1"
		if strings.Contains(s, c.l[:1]) {
			with := c.l
			if c.i > 0 {
				with = turned(c.l)
			}
			s = strings.Replace(s, c.l[:1], with, 1)
			told = fmt.Sprint(len(s))
		}
	}
	*m = model(s)
	return told
}

// beginning is the first n letters, as R7 says.
func beginning(s string, n int) string {
	for len(s) > 0 && len(s) > n {
		s = s[:len(s)-1]
	}
	return s
}

// piece is the letters whose places, from one of the two ends on, are not outside.
func (m *model) piece(from, to int) string {
	n := len(*m)
	out := ""
	for i, c := range []byte(*m) {
		at, back := i, i-n
		begun := from >= 0 && at >= from || from < 0 && back >= from
		over := to >= 0 && at > to || to < 0 && back > to
		if begun && !over {
			out += string(c)
		}
	}
	return out
}

// without is what Remove leaves.
func (m *model) without(count int, v string) string {
	s := string(*m)
	if count == 0 || count == math.MinInt {
		return strings.ReplaceAll(s, v, "")
	}
	if count < 0 {
		return turned(strings.Replace(turned(s), v, "", -count))
	}
	return strings.Replace(s, v, "", count)
}

// find is the places of a letter: those on the way, of them those that are looked at, of them those that are the letter, of them those that the rank leaves, of them so many.
func (m *model) find(v byte, rank, count, most int) []int {
	var way []int
	for i := range len(*m) {
		way = append(way, i)
	}
	if rank < 0 {
		slices.Reverse(way)
	}
	if most >= 1 && most < len(way) {
		way = way[:most]
	}
	way = slices.DeleteFunc(way, func(at int) bool { return (*m)[at] != v })
	for i := 1; i != rank && i != -rank; i++ {
		if len(way) == 0 || rank == 0 || rank == math.MinInt {
			return nil
		}
		way = way[1:]
	}
	if count >= 1 && count < len(way) {
		way = way[:count]
	}
	return way
}

// same fails unless a list tells what the model tells.
func (k things[T]) same(t *testing.T, d *Deque[T], m *model, script any) {
	t.Helper()
	if got := k.letters(d.List()); got != string(*m) || d.Len() != len(*m) {
		t.Fatalf("%v: %q, Len %d, not %q", script, got, d.Len(), *m)
	}
	if got := k.letters(gone(d.All())); got != string(*m) {
		t.Fatalf("%v: All %q, not %q", script, got, *m)
	}
	kept(t, fmt.Sprint(script), d)
}

// around is the numbers about a list's length, on both sides of 0, and the ends of all.
func around(n int) []int {
	list := []int{math.MinInt, math.MinInt + 1, math.MaxInt}
	for i := -n - 2; i <= n+2; i++ {
		list = append(list, i)
	}
	return list
}

// everyRow goes over all rows of so many letters at most, out of the first few.
func everyRow(most, letters int, do func(row string)) {
	rows := []string{""}
	for len(rows) > 0 {
		row := rows[0]
		rows = rows[1:]
		do(row)
		for c := range letters {
			if len(row) < most {
				rows = append(rows, row+string(rune('a'+c)))
			}
		}
	}
}

// ways are lists of one row that came about in several ways, so that their elements stand at several places.
func (k things[T]) ways(row string) []*Deque[T] {
	half := len(row) / 2
	pushed := k.made("")
	pushed.PushFront(k.row(turned(row[:half]))...)
	pushed.PushBack(k.row(row[half:])...)
	popped := k.made("ee" + row + "e")
	popped.PopFront(2)
	popped.PopBack(1)
	return []*Deque[T]{k.made(row), pushed, popped}
}

// P9.1 to 9.4: every call with every number about the length, on every short list.
func TestShortLists(t *testing.T) { over(t, tests.shortLists) }

func (k things[T]) shortLists(t *testing.T) {
	everyRow(5, 2, func(row string) {
		var calls []call
		for _, i := range around(len(row)) {
			calls = append(calls, call{what: "popFront", i: i}, call{what: "popBack", i: i}, call{what: "put", i: i, l: "c"})
			calls = append(calls, call{what: "remove", i: i, l: "a"}, call{what: "remove", i: i, l: "c"})
			for _, j := range around(len(row)) {
				calls = append(calls, call{what: "trim", i: i, j: j})
			}
		}
		for _, l := range []string{"aa", "ac", "bc", "ca"} {
			calls = append(calls, call{what: "insert", i: 0, l: l}, call{what: "insert", i: 1, l: l})
			calls = append(calls, call{what: "pushFront", l: l}, call{what: "pushBack", l: l})
		}
		for _, c := range calls {
			for _, d := range k.ways(row) {
				m := model(row)
				if c.what == "trim" {
					if got := k.letters(d.Slice(c.i, c.j)); got != m.piece(c.i, c.j) {
						t.Fatalf("Slice(%d, %d) of %q: %q", c.i, c.j, row, got)
					}
				}
				if got, want := k.do(d, c), m.do(c); got != want {
					t.Fatalf("%v of %q: %s, not %s", c, row, got, want)
				}
				k.same(t, d, &m, c)
			}
		}
	})
}

// P9.4: Find with all numbers about the length, on every short list.
func TestShortFinds(t *testing.T) { over(t, tests.shortFinds) }

func (k things[T]) shortFinds(t *testing.T) {
	everyRow(4, 2, func(row string) {
		m := model(row)
		lists := k.ways(row)
		for _, rank := range around(len(row)) {
			for _, count := range around(len(row)) {
				for _, most := range around(len(row)) {
					for v := range 3 {
						want := m.find(byte('a'+v), rank, count, most)
						for _, d := range lists {
							if got := d.Find(k[v], rank, count, most); !slices.Equal(got, want) {
								t.Fatalf("Find(%d, %d, %d, %d) of %q: %v, not %v", v, rank, count, most, row, got, want)
							}
						}
					}
				}
			}
		}
	})
}

// P9.1 to 9.5: every script of few calls.
func TestShortScripts(t *testing.T) { over(t, tests.shortScripts) }

func (k things[T]) shortScripts(t *testing.T) {
	calls := []call{
		{what: "pushFront", l: "ab"}, {what: "pushFront", l: "c"}, {what: "pushBack", l: "ba"}, {what: "pushBack", l: "d"},
		{what: "popFront", i: 1}, {what: "popFront", i: 3}, {what: "popBack", i: 1}, {what: "popBack", i: 2},
		{what: "put", i: -1, l: "a"}, {what: "trim", i: 1, j: -2}, {what: "remove", i: 0, l: "a"}, {what: "remove", i: -1, l: "b"},
		{what: "insert", i: 1, l: "ba"}, {what: "insert", i: 0, l: "ab"},
	}
	var walk func(script []call, left int)
	walk = func(script []call, left int) {
		d, m := Of[T](), new(model)
		for _, c := range script {
			if got, want := k.do(d, c), m.do(c); got != want {
				t.Fatalf("%v: %s, not %s", script, got, want)
			}
		}
		k.same(t, d, m, script)
		for _, c := range calls {
			if left > 0 {
				walk(append(script[:len(script):len(script)], c), left-1)
			}
		}
	}
	walk(nil, 4)
}

// Long scripts, in which the list grows, is trimmed and grows again.
func TestLongScripts(t *testing.T) { over(t, tests.longScripts) }

func (k things[T]) longScripts(t *testing.T) {
	for seed := range int64(40) {
		r := rand.New(rand.NewSource(seed))
		d, m := Of[T](), new(model)
		for step := range 400 {
			c := someCall(r, len(*m))
			if got, want := k.do(d, c), m.do(c); got != want {
				t.Fatalf("seed %d, step %d, %v: %s, not %s", seed, step, c, got, want)
			}
			k.same(t, d, m, step)
			v, rank, count, most := r.Intn(6), r.Intn(7)-3, r.Intn(5)-1, r.Intn(len(*m)+3)-1
			if got, want := d.Find(k[v], rank, count, most), m.find(byte('a'+v), rank, count, most); !slices.Equal(got, want) {
				t.Fatalf("seed %d, step %d: Find(%d, %d, %d, %d) of %q: %v, not %v", seed, step, v, rank, count, most, *m, got, want)
			}
			i, j := r.Intn(2*len(*m)+4)-len(*m)-2, r.Intn(2*len(*m)+4)-len(*m)-2
			if got := k.letters(d.Slice(i, j)); got != m.piece(i, j) {
				t.Fatalf("seed %d, step %d: Slice(%d, %d) of %q: %q", seed, step, i, j, *m, got)
			}
		}
	}
}

// someCall is a call on a list of that length; most of them make it longer.
func someCall(r *rand.Rand, n int) call {
	some := func(n int) string {
		b := make([]byte, n)
		for i := range b {
			b[i] = byte('a' + r.Intn(6))
		}
		return string(b)
	}
	switch r.Intn(16) {
	case 0, 1, 2:
		return call{what: "pushFront", l: some(r.Intn(5))}
	case 3, 4, 5:
		return call{what: "pushBack", l: some(r.Intn(5))}
	case 6, 7:
		return call{what: "popFront", i: r.Intn(5) - 1}
	case 8, 9:
		return call{what: "popBack", i: r.Intn(5) - 1}
	case 10, 11:
		return call{what: "insert", i: r.Intn(2), l: some(2)}
	case 12:
		return call{what: "put", i: r.Intn(2*n+3) - n - 1, l: some(1)}
	case 13:
		return call{what: "remove", i: r.Intn(7) - 3, l: some(1)}
	case 14:
		if r.Intn(10) == 0 {
			return call{what: "trim", i: r.Intn(n + 1), j: r.Intn(n + 1)}
		}
		return call{what: "trim", i: r.Intn(3), j: -1 - r.Intn(3)}
	}
	return call{what: "pushBack", l: some(r.Intn(40))}
}
