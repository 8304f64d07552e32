package deque

import (
	"math"
	"slices"
	"strings"
	"testing"
)

// over runs one test over lists of several types.
func over(t *testing.T, run func(tests, *testing.T)) {
	t.Run("numbers", func(t *testing.T) { run(things[int]{0, 1, -1, math.MinInt, math.MaxInt, 7}, t) })
	t.Run("texts", func(t *testing.T) { run(things[string]{"", "a", "A", "a\x00", "\xff", "a longer text"}, t) })
	t.Run("structs", func(t *testing.T) { run(things[pair]{{}, {1, ""}, {0, "a"}, {1, "a"}, {1, "b"}, {2, "a"}}, t) })
	t.Run("interfaces", func(t *testing.T) { run(things[any]{nil, 1, "1", int8(1), pair{}, [1]int{1}}, t) })
}

// pair is a type whose values are compared field by field.
type pair struct {
	n int
	s string
}

// things are the elements of the tests' lists, six of them, the zero value ahead. The tests name them by the letters a to f, and a list by the letters of its elements.
type things[T comparable] []T

// tests are what is tested of a list, whatever it holds.
type tests interface {
	of(t *testing.T)
	pushes(t *testing.T)
	pops(t *testing.T)
	turns(t *testing.T)
	atAndPut(t *testing.T)
	pieces(t *testing.T)
	removes(t *testing.T)
	inserts(t *testing.T)
	finds(t *testing.T)
	all(t *testing.T)
	allMeanwhile(t *testing.T)
	follows(t *testing.T)
	onNil(t *testing.T)
	zeroList(t *testing.T)
	newMemory(t *testing.T)
	notKept(t *testing.T)
	letGo(t *testing.T)
	shortLists(t *testing.T)
	shortFinds(t *testing.T)
	shortScripts(t *testing.T)
	longScripts(t *testing.T)
}

// row is the elements that letters name.
func (k things[T]) row(letters string) []T {
	var list []T
	for _, c := range []byte(letters) {
		list = append(list, k[c-'a'])
	}
	return list
}

// made is a list of the elements that letters name.
func (k things[T]) made(letters string) *Deque[T] {
	return Of(k.row(letters)...)
}

// letters names the elements of a list; one that is none of the things is ?.
func (k things[T]) letters(list []T) string {
	var b strings.Builder
	for _, v := range list {
		at := slices.Index(k, v)
		if at < 0 {
			b.WriteByte('?')
		} else {
			b.WriteByte(byte('a' + at))
		}
	}
	return b.String()
}

// tells fails unless a call told these elements.
func (k things[T]) tells(t *testing.T, what string, got []T, want string) {
	t.Helper()
	if !slices.Equal(got, k.row(want)) {
		t.Errorf("%s: %q, not %q", what, k.letters(got), want)
	}
}

// holds fails unless a list holds just these elements, whichever way it is asked.
func (k things[T]) holds(t *testing.T, what string, d *Deque[T], want string) {
	t.Helper()
	row := k.row(want)
	if !slices.Equal(d.List(), row) || d.Len() != len(row) {
		t.Errorf("%s: %q, Len %d, not %q", what, k.letters(d.List()), d.Len(), want)
		return
	}
	for i, v := range row {
		if got, ok := d.At(i); got != v || !ok {
			t.Errorf("%s: At(%d) of %q: %v %t", what, i, want, got, ok)
		}
	}
	if got := gone(d.All()); !slices.Equal(got, row) {
		t.Errorf("%s: All of %q: %q", what, want, k.letters(got))
	}
}

// gone is the elements that are gone over; their places must be those from 0 on.
func gone[T any](all func(func(int, T) bool)) []T {
	var list []T
	for i, v := range all {
		if i != len(list) {
			return nil
		}
		list = append(list, v)
	}
	return list
}

// P9.1: Of these, in their order; each time another list.
func TestOf(t *testing.T) { over(t, tests.of) }

func (k things[T]) of(t *testing.T) {
	for _, row := range []string{"", "a", "b", "abc", "ccbaabf"} {
		d, other := k.made(row), k.made(row)
		if d == nil {
			t.Fatalf("Of(%q): nil", row)
		}
		k.holds(t, "Of", d, row)
		d.PushBack(k[5])
		d.Put(0, k[4])
		k.holds(t, "the other one", other, row)
	}
}

// P9.1: PushFront lays one behind the other ahead of all, PushBack all behind.
func TestPushes(t *testing.T) { over(t, tests.pushes) }

func (k things[T]) pushes(t *testing.T) {
	for _, c := range []struct{ row, pushed, front, back string }{
		{"", "", "", ""},
		{"", "a", "a", "a"},
		{"", "b", "b", "b"},
		{"", "abc", "cba", "abc"},
		{"d", "", "d", "d"},
		{"d", "a", "ad", "da"},
		{"de", "abc", "cbade", "deabc"},
		{"abc", "fffe", "efffabc", "abcfffe"},
	} {
		d := k.made(c.row)
		d.PushFront(k.row(c.pushed)...)
		k.holds(t, "PushFront("+c.pushed+") on "+c.row, d, c.front)
		d = k.made(c.row)
		d.PushBack(k.row(c.pushed)...)
		k.holds(t, "PushBack("+c.pushed+") on "+c.row, d, c.back)
		d.PushFront(k[5], k[0])
		k.holds(t, "PushFront behind PushBack", d, "af"+c.back)
		d.PushBack(k[0], k[5])
		k.holds(t, "PushBack behind PushFront", d, "af"+c.back+"af")
	}
}

// P9.1, R7: PopFront gives the first ahead, PopBack the last ahead, and they are gone.
func TestPops(t *testing.T) { over(t, tests.pops) }

func (k things[T]) pops(t *testing.T) {
	for _, c := range []struct {
		n                         int
		front, behind, back, left string
	}{
		{math.MinInt, "", "abcde", "", "abcde"},
		{-1, "", "abcde", "", "abcde"},
		{0, "", "abcde", "", "abcde"},
		{1, "a", "bcde", "e", "abcd"},
		{2, "ab", "cde", "ed", "abc"},
		{4, "abcd", "e", "edcb", "a"},
		{5, "abcde", "", "edcba", ""},
		{6, "abcde", "", "edcba", ""},
		{math.MaxInt, "abcde", "", "edcba", ""},
	} {
		d := k.made("abcde")
		k.tells(t, "PopFront", d.PopFront(c.n), c.front)
		k.holds(t, "behind PopFront", d, c.behind)
		d = k.made("abcde")
		k.tells(t, "PopBack", d.PopBack(c.n), c.back)
		k.holds(t, "behind PopBack", d, c.left)
		d = k.made("")
		k.tells(t, "PopFront of none", d.PopFront(c.n), "")
		k.tells(t, "PopBack of none", d.PopBack(c.n), "")
		k.holds(t, "behind pops of none", d, "")
		d.PushFront(k[1])
		d.PushBack(k[2])
		k.holds(t, "pushes behind pops", d, "bc")
	}
}

// P9.1: pushes and pops at both ends by turns, many of them.
func TestTurns(t *testing.T) { over(t, tests.turns) }

func (k things[T]) turns(t *testing.T) {
	d := k.made("")
	want := ""
	pop := func(n int) int { return min(n, len(want)) }
	for i := range 3000 {
		c := string(rune('a' + i*i%6))
		switch i * 7 % 11 {
		case 0, 1, 2:
			d.PushBack(k.row(c)...)
			want += c
		case 3, 4, 5:
			d.PushFront(k.row(c)...)
			want = c + want
		case 6:
			d.PushBack(k.row(c + "ab")...)
			want += c + "ab"
		case 7, 8:
			n := pop(i % 4)
			k.tells(t, "PopFront", d.PopFront(i%4), want[:n])
			want = want[n:]
		default:
			n := len(want) - pop(i%5)
			k.tells(t, "PopBack", d.PopBack(i%5), turned(want[n:]))
			want = want[:n]
		}
		if d.Len() != len(want) || i%100 == 0 && k.letters(d.List()) != want {
			t.Fatalf("turn %d: %q, not %q", i, k.letters(d.List()), want)
		}
	}
	k.holds(t, "at the end", d, want)
}

// turned is a text from its end on.
func turned(s string) string {
	b := []byte(s)
	slices.Reverse(b)
	return string(b)
}

// P9.2: At and Put, at places from either end; zero values and false, where there is no such place.
func TestAtAndPut(t *testing.T) { over(t, tests.atAndPut) }

func (k things[T]) atAndPut(t *testing.T) {
	const row = "bcde"
	for _, c := range []struct {
		i    int
		at   string // what stands there; none, if there is no such place
		left string // behind Put of f
	}{
		{0, "b", "fcde"}, {1, "c", "bfde"}, {2, "d", "bcfe"}, {3, "e", "bcdf"},
		{-1, "e", "bcdf"}, {-2, "d", "bcfe"}, {-3, "c", "bfde"}, {-4, "b", "fcde"},
		{4, "", row}, {5, "", row}, {math.MaxInt, "", row},
		{-5, "", row}, {-6, "", row}, {math.MinInt, "", row},
	} {
		d := k.made(row)
		there := c.at != ""
		want := k[0]
		if there {
			want = k.row(c.at)[0]
		}
		if v, ok := d.At(c.i); v != want || ok != there {
			t.Errorf("At(%d): %v %t, not %q", c.i, v, ok, c.at)
		}
		k.holds(t, "behind At", d, row)
		if ok := d.Put(c.i, k[5]); ok != there {
			t.Errorf("Put(%d): %t", c.i, ok)
		}
		k.holds(t, "behind Put", d, c.left)
		for _, none := range []*Deque[T]{k.made(""), nil} {
			if v, ok := none.At(c.i); v != k[0] || ok || none.Put(c.i, k[5]) || none.Len() != 0 {
				t.Errorf("At(%d) of none: %v %t, Len %d", c.i, v, ok, none.Len())
			}
		}
	}
}

// P9.2: Slice tells a piece, and Trim leaves it alone.
func TestPieces(t *testing.T) { over(t, tests.pieces) }

func (k things[T]) pieces(t *testing.T) {
	const least, most = math.MinInt, math.MaxInt
	for _, c := range []struct {
		from, to int
		want     string
	}{
		{0, 4, "abcde"}, {0, -1, "abcde"}, {-5, -1, "abcde"}, {-5, 4, "abcde"},
		{0, 0, "a"}, {4, 4, "e"}, {-1, -1, "e"}, {-5, -5, "a"}, {-5, 0, "a"}, {4, -1, "e"}, {2, 2, "c"},
		{1, 3, "bcd"}, {1, -2, "bcd"}, {-4, 3, "bcd"}, {-4, -2, "bcd"},
		{0, 5, "abcde"}, {3, 99, "de"}, {-2, most, "de"}, {-6, -1, "abcde"}, {-99, 1, "ab"}, {least, -4, "ab"}, {least, most, "abcde"},
		{3, 2, ""}, {-2, -3, ""}, {4, 0, ""}, {-1, 0, ""}, {most, least, ""}, {1, -5, ""},
		{5, 5, ""}, {5, 99, ""}, {most, most, ""}, {5, -1, ""},
		{0, -6, ""}, {-9, -6, ""}, {least, least, ""}, {-5, -6, ""}, {0, least, ""},
	} {
		d := k.made("abcde")
		k.tells(t, "Slice", d.Slice(c.from, c.to), c.want)
		k.holds(t, "behind Slice", d, "abcde")
		d.Trim(c.from, c.to)
		k.holds(t, "Trim", d, c.want)
		d.PushFront(k[5])
		d.PushBack(k[0])
		k.holds(t, "pushes behind Trim", d, "f"+c.want+"a")
		none := k.made("")
		k.tells(t, "Slice of none", none.Slice(c.from, c.to), "")
		none.Trim(c.from, c.to)
		k.holds(t, "Trim of none", none, "")
	}
}

// P9.3: Remove takes the first, the last or all that are v, and tells how many.
func TestRemoves(t *testing.T) { over(t, tests.removes) }

func (k things[T]) removes(t *testing.T) {
	for _, c := range []struct {
		row   string
		count int
		v     string
		n     int
		left  string
	}{
		{"abacada", 1, "a", 1, "bacada"}, {"abacada", 2, "a", 2, "bcada"}, {"abacada", 3, "a", 3, "bcda"},
		{"abacada", 4, "a", 4, "bcd"}, {"abacada", 5, "a", 4, "bcd"}, {"abacada", math.MaxInt, "a", 4, "bcd"},
		{"abacada", -1, "a", 1, "abacad"}, {"abacada", -2, "a", 2, "abacd"}, {"abacada", -3, "a", 3, "abcd"},
		{"abacada", -4, "a", 4, "bcd"}, {"abacada", -5, "a", 4, "bcd"}, {"abacada", -math.MaxInt, "a", 4, "bcd"},
		{"abacada", math.MinInt, "a", 4, "bcd"}, {"abacada", 0, "a", 4, "bcd"},
		{"abacada", 1, "b", 1, "aacada"}, {"abacada", -1, "d", 1, "abacaa"}, {"abacada", 2, "c", 1, "abaada"},
		{"bbbb", 0, "b", 4, ""}, {"bbbb", 4, "b", 4, ""}, {"bbbb", -4, "b", 4, ""}, {"bbbb", 3, "b", 3, "b"},
		{"b", 1, "b", 1, ""}, {"b", -1, "b", 1, ""},
		{"bcd", 0, "a", 0, "bcd"}, {"bcd", 1, "a", 0, "bcd"}, {"bcd", -1, "f", 0, "bcd"}, {"bcd", math.MinInt, "f", 0, "bcd"},
		{"", 0, "a", 0, ""}, {"", 1, "a", 0, ""}, {"", -1, "a", 0, ""}, {"", math.MinInt, "a", 0, ""},
	} {
		d := k.made(c.row)
		if n := d.Remove(c.count, k.row(c.v)[0]); n != c.n {
			t.Errorf("Remove(%d, %s) of %q: %d, not %d", c.count, c.v, c.row, n, c.n)
		}
		k.holds(t, "Remove("+c.v+") of "+c.row, d, c.left)
		d.PushFront(k[4])
		d.PushBack(k[5])
		k.holds(t, "pushes behind Remove", d, "e"+c.left+"f")
	}
}

// P9.3: Insert lays v beside the first that is pivot, and tells the length; -1, and nothing changed, where there is none.
func TestInserts(t *testing.T) { over(t, tests.inserts) }

func (k things[T]) inserts(t *testing.T) {
	for _, c := range []struct {
		row, pivot, v, before, behind string
	}{
		{"bcd", "b", "e", "ebcd", "becd"},
		{"bcd", "c", "e", "becd", "bced"},
		{"bcd", "d", "e", "bced", "bcde"},
		{"bcbcb", "b", "a", "abcbcb", "bacbcb"},
		{"bcbcb", "c", "c", "bccbcb", "bccbcb"},
		{"dbcbc", "c", "f", "dbfcbc", "dbcfbc"},
		{"a", "a", "a", "aa", "aa"},
		{"f", "f", "a", "af", "fa"},
		{"bcd", "a", "e", "", ""},
		{"bcd", "e", "e", "", ""},
		{"", "a", "a", "", ""},
	} {
		for before, want := range map[bool]string{true: c.before, false: c.behind} {
			d := k.made(c.row)
			length := len(want)
			if want == "" {
				want, length = c.row, -1
			}
			if n := d.Insert(before, k.row(c.pivot)[0], k.row(c.v)[0]); n != length {
				t.Errorf("Insert(%t, %s, %s) of %q: %d, not %d", before, c.pivot, c.v, c.row, n, length)
			}
			k.holds(t, "Insert", d, want)
			d.PushFront(k[4])
			d.PushBack(k[5])
			k.holds(t, "pushes behind Insert", d, "e"+want+"f")
		}
	}
}

// P9.4: Find by rank, count and most, each alone and together.
func TestFinds(t *testing.T) { over(t, tests.finds) }

func (k things[T]) finds(t *testing.T) {
	const least, greatest = math.MinInt, math.MaxInt
	d := k.made("bacbdabb") // b at 0, 3, 6, 7; a at 1, 5
	for _, c := range []struct {
		v                 string
		rank, count, most int
		want              []int
	}{
		{"b", 1, 0, 0, []int{0, 3, 6, 7}}, {"b", 2, 0, 0, []int{3, 6, 7}}, {"b", 4, 0, 0, []int{7}}, {"b", 5, 0, 0, nil}, {"b", greatest, 0, 0, nil},
		{"b", -1, 0, 0, []int{7, 6, 3, 0}}, {"b", -2, 0, 0, []int{6, 3, 0}}, {"b", -4, 0, 0, []int{0}}, {"b", -5, 0, 0, nil}, {"b", -greatest, 0, 0, nil},
		{"b", 0, 0, 0, nil}, {"b", least, 0, 0, nil}, {"b", 0, 1, 1, nil}, {"b", least, 1, 9, nil},
		{"b", 1, 1, 0, []int{0}}, {"b", 1, 3, 0, []int{0, 3, 6}}, {"b", 1, 4, 0, []int{0, 3, 6, 7}}, {"b", 1, 5, 0, []int{0, 3, 6, 7}}, {"b", 1, greatest, 0, []int{0, 3, 6, 7}},
		{"b", 1, -1, 0, []int{0, 3, 6, 7}}, {"b", 1, least, 0, []int{0, 3, 6, 7}}, {"b", -1, least, least, []int{7, 6, 3, 0}},
		{"b", -1, 1, 0, []int{7}}, {"b", -1, 3, 0, []int{7, 6, 3}}, {"b", -1, 4, 0, []int{7, 6, 3, 0}}, {"b", -1, 5, 0, []int{7, 6, 3, 0}},
		{"b", 1, 0, 1, []int{0}}, {"b", 1, 0, 3, []int{0}}, {"b", 1, 0, 4, []int{0, 3}}, {"b", 1, 0, 7, []int{0, 3, 6}}, {"b", 1, 0, 8, []int{0, 3, 6, 7}}, {"b", 1, 0, 9, []int{0, 3, 6, 7}},
		{"b", 1, 0, greatest, []int{0, 3, 6, 7}}, {"b", 1, 0, -1, []int{0, 3, 6, 7}}, {"b", 1, 0, least, []int{0, 3, 6, 7}},
		{"b", -1, 0, 1, []int{7}}, {"b", -1, 0, 4, []int{7, 6}}, {"b", -1, 0, 5, []int{7, 6, 3}}, {"b", -1, 0, 7, []int{7, 6, 3}}, {"b", -1, 0, 8, []int{7, 6, 3, 0}}, {"b", -1, 0, 9, []int{7, 6, 3, 0}},
		{"b", 2, 1, 0, []int{3}}, {"b", 2, 2, 7, []int{3, 6}}, {"b", 2, 2, 6, []int{3}}, {"b", 2, 1, 3, nil}, {"b", 3, 9, 7, []int{6}},
		{"b", -2, 1, 0, []int{6}}, {"b", -2, 2, 5, []int{6, 3}}, {"b", -2, 2, 4, []int{6}}, {"b", -2, 1, 1, nil}, {"b", -3, 9, 5, []int{3}},
		{"a", 1, 0, 0, []int{1, 5}}, {"a", -1, 0, 0, []int{5, 1}}, {"a", 1, 1, 1, nil}, {"a", -1, 1, 2, nil}, {"a", -1, 1, 3, []int{5}},
		{"d", 1, 0, 0, []int{4}}, {"d", -1, 0, 4, []int{4}}, {"d", 2, 0, 0, nil},
		{"f", 1, 0, 0, nil}, {"f", -1, 1, 1, nil}, {"e", greatest, greatest, greatest, nil},
	} {
		v := k.row(c.v)[0]
		if got := d.Find(v, c.rank, c.count, c.most); !slices.Equal(got, c.want) {
			t.Errorf("Find(%s, %d, %d, %d): %v, not %v", c.v, c.rank, c.count, c.most, got, c.want)
		}
		if got := k.made("").Find(v, c.rank, c.count, c.most); len(got) != 0 {
			t.Errorf("Find(%s, %d, %d, %d) of none: %v", c.v, c.rank, c.count, c.most, got)
		}
	}
	k.holds(t, "behind Find", d, "bacbdabb")
}

// P9.5: List tells all, and All goes over them; it may be left early, gone over again and nested.
func TestAll(t *testing.T) { over(t, tests.all) }

func (k things[T]) all(t *testing.T) {
	d := k.made("cd")
	d.PushFront(k.row("ba")...)
	d.PushBack(k.row("dea")...)
	const row = "abcddea"
	k.tells(t, "List", d.List(), row)
	all := d.All()
	for steps := range len(row) + 1 {
		var got []T
		for i, v := range all {
			if i != len(got) {
				t.Errorf("place %d at step %d", i, len(got))
			}
			if len(got) == steps {
				break
			}
			got = append(got, v)
		}
		k.tells(t, "All left early", got, row[:steps])
	}
	var outer []T
	for i, v := range all {
		outer = append(outer, v)
		var inner []T
		for j, v := range all {
			if inner = append(inner, v); j == i {
				break
			}
		}
		k.tells(t, "All nested", inner, row[:i+1])
	}
	k.tells(t, "All around it", outer, row)
	k.holds(t, "behind All", d, row)
	if all := k.made("").All(); all == nil || len(gone(all)) != 0 {
		t.Error("All of none")
	}
}

// P9.5: what is done to the list has no part in what All goes over, at whatever step it is done, behind All and ahead of the first step too.
func TestAllMeanwhile(t *testing.T) { over(t, tests.allMeanwhile) }

func (k things[T]) allMeanwhile(t *testing.T) {
	const row = "bacbd"
	for what, do := range map[string]func(d *Deque[T]){
		"PushFront":    func(d *Deque[T]) { d.PushFront(k[5], k[4]) },
		"PushBack":     func(d *Deque[T]) { d.PushBack(k[5], k[4]) },
		"PopFront":     func(d *Deque[T]) { d.PopFront(2) },
		"PopBack":      func(d *Deque[T]) { d.PopBack(2) },
		"PopFront all": func(d *Deque[T]) { d.PopFront(9); d.PushBack(k[5]) },
		"PopBack all":  func(d *Deque[T]) { d.PopBack(9); d.PushFront(k[5]) },
		"At and others": func(d *Deque[T]) {
			d.At(1)
			d.Len()
			d.Slice(0, 1)
			d.List()
			d.Find(k[1], 1, 0, 0)
			d.All()
		},
		"Put":           func(d *Deque[T]) { d.Put(0, k[5]); d.Put(2, k[5]); d.Put(-1, k[5]) },
		"Trim":          func(d *Deque[T]) { d.Trim(1, 2) },
		"Trim all":      func(d *Deque[T]) { d.Trim(2, 1) },
		"Remove":        func(d *Deque[T]) { d.Remove(1, k[1]) },
		"Remove last":   func(d *Deque[T]) { d.Remove(-1, k[1]) },
		"Remove all":    func(d *Deque[T]) { d.Remove(0, k[1]) },
		"Insert ahead":  func(d *Deque[T]) { d.Insert(true, k[1], k[5]) },
		"Insert behind": func(d *Deque[T]) { d.Insert(false, k[1], k[5]) },
	} {
		done := k.made(row)
		do(done)
		for at := -1; at < len(row); at++ {
			d := k.made(row)
			all := d.All()
			if at < 0 {
				do(d)
			}
			var got []T
			for i, v := range all {
				if i == at {
					do(d)
				}
				got = append(got, v)
			}
			k.tells(t, what+" meanwhile", got, row)
			k.holds(t, what+" behind All", d, k.letters(done.List()))
			k.tells(t, what+", then All again", gone(all), row)
		}
	}
}

// P9.6: what is pushed at one end and popped there comes back the other way round; Slice(0, -1) is List; Remove leaves all that was not v.
func TestFollows(t *testing.T) { over(t, tests.follows) }

func (k things[T]) follows(t *testing.T) {
	for _, row := range []string{"", "a", "fab", "abcabcabc"} {
		for _, pushed := range []string{"", "b", "abc", "ffedcbaab"} {
			d := k.made(row)
			d.PushFront(k.row(pushed)...)
			k.tells(t, "PopFront behind PushFront", d.PopFront(len(pushed)), turned(pushed))
			k.holds(t, "behind both", d, row)
			d.PushBack(k.row(pushed)...)
			k.tells(t, "PopBack behind PushBack", d.PopBack(len(pushed)), turned(pushed))
			k.holds(t, "behind both", d, row)
			d.PushFront(k.row(pushed)...)
			k.tells(t, "Slice(0, -1)", d.Slice(0, -1), k.letters(d.List()))
			for v := range k {
				for count := -3; count <= 3; count++ {
					c := string(rune('a' + v))
					d := k.made(row + pushed)
					there := len(d.Find(k[v], 1, 0, 0))
					n := d.Remove(count, k[v])
					left := k.letters(d.List())
					if strings.ReplaceAll(left, c, "") != strings.ReplaceAll(row+pushed, c, "") || strings.Count(left, c) != there-n {
						t.Errorf("Remove(%d, %s) of %q: %d, left %q", count, c, row+pushed, n, left)
					}
				}
			}
		}
	}
}

// P9.6, R1: on a nil list pushes and Trim do nothing, Insert answers -1, All goes over nothing; else zero values.
func TestNil(t *testing.T) { over(t, tests.onNil) }

func (k things[T]) onNil(t *testing.T) {
	var d *Deque[T]
	d.PushFront()
	d.PushFront(k...)
	d.PushBack()
	d.PushBack(k...)
	numbers := []int{math.MinInt, -1, 0, 1, math.MaxInt}
	for _, i := range numbers {
		for _, j := range numbers {
			d.Trim(i, j)
			if len(d.Slice(i, j)) != 0 || len(d.Find(k[0], i, j, 0)) != 0 || len(d.Find(k[0], 1, i, j)) != 0 {
				t.Errorf("Slice or Find(%d, %d) told something", i, j)
			}
		}
		if len(d.PopFront(i)) != 0 || len(d.PopBack(i)) != 0 || d.Remove(i, k[0]) != 0 {
			t.Errorf("PopFront, PopBack or Remove(%d) told something", i)
		}
		if v, ok := d.At(i); v != k[0] || ok || d.Put(i, k[1]) {
			t.Errorf("At(%d): %v %t", i, v, ok)
		}
	}
	if d.Insert(true, k[0], k[0]) != -1 || d.Insert(false, k[1], k[0]) != -1 {
		t.Error("Insert")
	}
	if d.Len() != 0 || len(d.List()) != 0 {
		t.Errorf("Len: %d, List: %v", d.Len(), d.List())
	}
	if all := d.All(); all == nil || len(gone(all)) != 0 {
		t.Error("All")
	}
}

// A list that Of did not give, but that is not nil, is of nothing too.
func TestZeroList(t *testing.T) { over(t, tests.zeroList) }

func (k things[T]) zeroList(t *testing.T) {
	var d Deque[T]
	if len(d.PopFront(1)) != 0 || len(d.PopBack(1)) != 0 || d.Remove(0, k[0]) != 0 || d.Insert(true, k[0], k[0]) != -1 {
		t.Error("a zero list has something")
	}
	d.Trim(0, -1)
	k.holds(t, "a zero list", &d, "")
	d.PushFront(k[1])
	d.PushBack(k[2])
	k.holds(t, "pushes on it", &d, "bc")
}

// The chapter's examples.
func TestExamples(t *testing.T) {
	d := Of(1, 2, 1, 3, 1)
	for _, c := range []struct {
		what      string
		got, want []int
	}{
		{"Slice(-3, -1)", d.Slice(-3, -1), []int{1, 3, 1}},
		{"Slice(1, 99)", d.Slice(1, 99), []int{2, 1, 3, 1}},
		{"Slice(3, 2)", d.Slice(3, 2), nil},
		{"Find(1, 1, 0, 0)", d.Find(1, 1, 0, 0), []int{0, 2, 4}},
		{"Find(1, -1, 2, 0)", d.Find(1, -1, 2, 0), []int{4, 2}},
		{"Find(1, 2, 1, 0)", d.Find(1, 2, 1, 0), []int{2}},
		{"Find(1, 1, 0, 2)", d.Find(1, 1, 0, 2), []int{0}},
	} {
		if !slices.Equal(c.got, c.want) {
			t.Errorf("%s: %v, not %v", c.what, c.got, c.want)
		}
	}
	if n := d.Remove(-2, 1); n != 2 || !slices.Equal(d.List(), []int{1, 2, 3}) {
		t.Errorf("Remove: %d, left %v", n, d.List())
	}
	if n := d.Insert(true, 3, 9); n != 4 || !slices.Equal(d.List(), []int{1, 2, 9, 3}) {
		t.Errorf("Insert: %d, left %v", n, d.List())
	}
	if d.PushFront(7, 8); !slices.Equal(d.List(), []int{8, 7, 1, 2, 9, 3}) {
		t.Errorf("PushFront: %v", d.List())
	}
	if got := d.PopBack(2); !slices.Equal(got, []int{3, 9}) {
		t.Errorf("PopBack: %v", got)
	}
}

// R1: elements that are not themselves, or that == panics at, are moved like others; they are nothing that is looked for.
func TestNotThemselves(t *testing.T) {
	type deep struct {
		n    int
		held any
	}
	strange := []any{math.NaN(), []int{1}, map[int]int{}, func() {}, deep{1, []int{1}}, deep{1, math.NaN()}, [2]any{1, []int{}}, [2]any{math.NaN(), []int{}}}
	for i, v := range strange {
		d := Of(strange...)
		d.PushFront(1)
		d.PushBack(deep{1, 1}, deep{2, []int{1}}, 1)
		length := d.Len()
		for _, rank := range []int{-2, -1, 1, 2} {
			if found := d.Find(v, rank, 0, 0); len(found) != 0 {
				t.Errorf("Find of the strange one %d: %v", i, found)
			}
		}
		if d.Remove(0, v) != 0 || d.Insert(true, v, 1) != -1 || d.Len() != length {
			t.Errorf("the strange one %d was found", i)
		}
		if found := d.Find(deep{1, 1}, 1, 0, 0); !slices.Equal(found, []int{len(strange) + 1}) {
			t.Errorf("Find among strange ones: %v", found)
		}
		if d.Insert(false, deep{1, 1}, v) != length+1 || d.Remove(0, 1) != 2 || d.Len() != length-1 {
			t.Errorf("beside the strange one %d: Len %d", i, d.Len())
		}
		if !d.Put(0, v) || len(d.PopFront(2)) != 2 || len(d.PopBack(9)) != 9 {
			t.Errorf("with the strange one %d: Len %d", i, d.Len())
		}
	}
	floats := Of(math.NaN(), 0, math.Copysign(0, -1), math.NaN())
	if floats.Remove(0, math.NaN()) != 0 || floats.Remove(0, 0) != 2 || floats.Len() != 2 {
		t.Errorf("floats: %v", floats.List())
	}
}
