package rank

import (
	"fmt"
	"iter"
	"math"
	"slices"
	"strconv"
	"strings"
	"testing"

	"covenant/api"
)

const top = api.MaxScore

// listed is entries written as names and scores by turns, with spaces between them; _ is the empty name.
func listed(line string) []api.Scored {
	words := strings.Fields(line)
	var list []api.Scored
	for i := 0; i < len(words); i += 2 {
		score, err := strconv.Atoi(words[i+1])
		if err != nil {
			panic(line)
		}
		list = append(list, api.Scored{Name: strings.ReplaceAll(words[i], "_", ""), Score: score})
	}
	return list
}

// of is a rank of these entries.
func of(t *testing.T, list []api.Scored) *Rank {
	t.Helper()
	r, e := Of(list)
	if r == nil || e != api.OK {
		t.Fatalf("Of(%v): %v %d", list, r, e)
	}
	return r
}

// made is a rank of entries that are written in a line.
func made(t *testing.T, line string) *Rank {
	t.Helper()
	return of(t, listed(line))
}

// gone is the entries that are gone over.
func gone(all iter.Seq2[string, int]) []api.Scored {
	var list []api.Scored
	for name, score := range all {
		list = append(list, api.Scored{Name: name, Score: score})
	}
	return list
}

// tells fails unless a call told these entries in this order.
func tells(t *testing.T, what string, got, want []api.Scored) {
	t.Helper()
	if !slices.Equal(got, want) {
		t.Errorf("%s: %s, not %s", what, told(got), told(want))
	}
}

// holds fails unless a rank holds just these entries in this order, whichever way it is asked.
func holds(t *testing.T, what string, r *Rank, want []api.Scored) {
	t.Helper()
	tells(t, what+": List", r.List(), want)
	tells(t, what+": All", gone(r.All()), want)
	tells(t, what+": Slice", r.Slice(0, -1, false), want)
	tells(t, what+": Scores", r.Scores(api.Bound{Inf: -1}, api.Bound{Inf: 1}, false, 0, -1), want)
	tells(t, what+": Names", r.Names(api.Bound{Inf: -1}, api.Bound{Inf: 1}, false, 0, -1), want)
	if r.Len() != len(want) {
		t.Errorf("%s: Len %d of %s", what, r.Len(), told(want))
	}
	for i, e := range want {
		has(t, what, r, e.Name, e.Score)
		if place, ok := r.Place(e.Name, false); place != i || !ok {
			t.Errorf("%s: Place(%q): %d %t of %s", what, e.Name, place, ok, told(want))
		}
		if place, ok := r.Place(e.Name, true); place != len(want)-1-i || !ok {
			t.Errorf("%s: Place(%q, reverse): %d %t of %s", what, e.Name, place, ok, told(want))
		}
	}
}

// has fails unless a name has that score.
func has(t *testing.T, what string, r *Rank, name string, want int) {
	t.Helper()
	if score, ok := r.Score(name); score != want || !ok {
		t.Errorf("%s: Score(%q): %d %t, not %d", what, name, score, ok, want)
	}
}

// lacks fails unless a name is not there, whichever way it is asked for.
func lacks(t *testing.T, what string, r *Rank, name string) {
	t.Helper()
	if score, ok := r.Score(name); score != 0 || ok {
		t.Errorf("%s: Score(%q): %d %t", what, name, score, ok)
	}
	for _, reverse := range []bool{false, true} {
		if place, ok := r.Place(name, reverse); place != 0 || ok {
			t.Errorf("%s: Place(%q, %t): %d %t", what, name, reverse, place, ok)
		}
	}
}

// orders is a list in each of its orders.
func orders[T any](l []T) [][]T {
	if len(l) == 0 {
		return [][]T{nil}
	}
	var all [][]T
	for i := range l {
		rest := append(slices.Clone(l[:i]), l[i+1:]...)
		for _, order := range orders(rest) {
			all = append(all, append([]T{l[i]}, order...))
		}
	}
	return all
}

// P12.1: Of none, of one and of several entries, in every order in which they can come.
func TestOf(t *testing.T) {
	for _, want := range [][]api.Scored{
		{},
		{{Name: "a", Score: 1}},
		{{Name: "", Score: 0}},
		{{Name: "a", Score: -top}},
		{{Name: "a", Score: top}},
		listed("a 1 b 2"),
		listed("b 1 a 2"),
		listed("a -1 b 0 c 1"),
		listed("a 7 b 7 c 7 d 7"),
		listed("z -10 y -9 x -1 w 0 v 1"),
		listed("e -3 _ 0 a 0 d 0 b 9 c 10"),
		{{Name: "low", Score: -top}, {Name: "low1", Score: -top + 1}, {Name: "nought", Score: 0}, {Name: "high1", Score: top - 1}, {Name: "high", Score: top}},
		{{Name: "", Score: 2}, {Name: "\x00", Score: 2}, {Name: "A", Score: 2}, {Name: "a", Score: 2}, {Name: "a\x00", Score: 2}, {Name: "\xff", Score: 2}},
	} {
		for _, list := range orders(want) {
			holds(t, "Of", of(t, list), want)
		}
	}
	for _, none := range [][]api.Scored{nil, {}, make([]api.Scored, 0, 3)} {
		r := of(t, none)
		holds(t, "Of none", r, nil)
		if is, e := r.Set("a", 1); !is || e != api.OK || r.Len() != 1 {
			t.Errorf("Set behind Of none: %t %d", is, e)
		}
	}
}

// P12.1: a score that is none is refused, wherever it stands, and ahead of a name that stands twice, whichever comes first.
func TestOfRefuses(t *testing.T) {
	refuses := func(want api.Errno, list []api.Scored) {
		t.Helper()
		for _, order := range orders(list) {
			if r, e := Of(order); r != nil || e != want {
				t.Errorf("Of(%v): %v %d, not %d", order, r, e, want)
			}
		}
	}
	for _, none := range []int{top + 1, -top - 1, top + 2, 2 * top, -2 * top, math.MaxInt, math.MinInt} {
		bad := api.Scored{Name: "x", Score: none}
		refuses(api.ErrScore, []api.Scored{bad})
		refuses(api.ErrScore, append(listed("a 1 b 2"), bad))
		refuses(api.ErrScore, []api.Scored{bad, bad})
		refuses(api.ErrScore, append(listed("x 1"), bad))
		refuses(api.ErrScore, append(listed("a 1 a 2"), bad))
		refuses(api.ErrScore, append(listed("a 1 a 1 b 2"), bad))
		refuses(api.ErrScore, []api.Scored{{Name: "a", Score: none}, {Name: "b", Score: -none}, {Name: "a", Score: top}})
	}
	refuses(api.ErrPair, listed("a 1 a 1"))
	refuses(api.ErrPair, listed("a 1 a 2"))
	refuses(api.ErrPair, listed("_ 0 _ 0"))
	refuses(api.ErrPair, listed("a 1 b 2 a 3"))
	refuses(api.ErrPair, listed("a 1 b 1 c 1 b 1"))
	refuses(api.ErrPair, listed("a 1 a 2 a 3"))
	refuses(api.ErrPair, listed("a 1 b 2 a 2 b 1"))
	refuses(api.ErrPair, []api.Scored{{Name: "a", Score: top}, {Name: "a", Score: -top}})
}

// P12.1: names that are nearly one are two.
func TestOfNearNames(t *testing.T) {
	names := []string{"", " ", "\x00", "a", "A", "a\x00", "\x00a", "a ", "aa", "\xc3\xa4", "a\xcc\x88", "\xff", "0", "00"}
	var list []api.Scored
	for _, name := range names {
		list = append(list, api.Scored{Name: name, Score: 5})
	}
	if r := of(t, list); r.Len() != len(names) {
		t.Errorf("Len: %d", r.Len())
	}
}

// Each rank that Of gives is one of its own.
func TestOfAgain(t *testing.T) {
	list := listed("b 2 a 1 c 3")
	r, other := of(t, list), of(t, list)
	r.Set("a", 9)
	r.Set("d", 0)
	r.Drop("b")
	holds(t, "the changed one", r, listed("d 0 c 3 a 9"))
	holds(t, "the other one", other, listed("a 1 b 2 c 3"))
}

// The order is by scores as numbers, and of one score by names, by each of their bytes.
func TestOrder(t *testing.T) {
	var want []api.Scored
	for _, score := range []int{-top, -10, -9, -1, 0, 1, 9, 10, 100, top} {
		// The names' own order is another one, as texts and as numbers.
		want = append(want, api.Scored{Name: strconv.Itoa(-score), Score: score})
	}
	list := slices.Clone(want)
	slices.Reverse(list)
	holds(t, "by scores", of(t, list), want)

	want = []api.Scored{{Name: ""}}
	for c := range 256 {
		want = append(want, api.Scored{Name: string([]byte{byte(c)})}, api.Scored{Name: string([]byte{byte(c), 'm'})})
	}
	list = slices.Clone(want)
	slices.Reverse(list)
	holds(t, "by names", of(t, list), want)
	r := made(t, "")
	for _, e := range list {
		r.Set(e.Name, e.Score)
	}
	holds(t, "by names that were set", r, want)
}

// P12.2: Set of a name that is not there and of one that is, with a lesser score, the same one and a greater one.
func TestSet(t *testing.T) {
	r := made(t, "")
	for _, c := range []struct {
		name  string
		score int
		isNew bool
		want  string
	}{
		{"b", 2, true, "b 2"},
		{"b", 2, false, "b 2"},
		{"b", 3, false, "b 3"},
		{"b", -3, false, "b -3"},
		{"a", -3, true, "a -3 b -3"},
		{"c", -4, true, "c -4 a -3 b -3"},
		{"", -3, true, "c -4 _ -3 a -3 b -3"},
		{"aa", -3, true, "c -4 _ -3 a -3 aa -3 b -3"},
		{"a", 0, false, "c -4 _ -3 aa -3 b -3 a 0"},
		{"a", -5, false, "a -5 c -4 _ -3 aa -3 b -3"},
		{"", 0, false, "a -5 c -4 aa -3 b -3 _ 0"},
		{"b", 0, false, "a -5 c -4 aa -3 _ 0 b 0"},
		{"b", 0, false, "a -5 c -4 aa -3 _ 0 b 0"},
		{"A", -5, true, "A -5 a -5 c -4 aa -3 _ 0 b 0"},
		{"c", top, false, "A -5 a -5 aa -3 _ 0 b 0 c 9007199254740992"},
		{"b", -top, false, "b -9007199254740992 A -5 a -5 aa -3 _ 0 c 9007199254740992"},
	} {
		if is, e := r.Set(c.name, c.score); is != c.isNew || e != api.OK {
			t.Errorf("Set(%q, %d): %t %d", c.name, c.score, is, e)
		}
		holds(t, "behind Set("+c.name+")", r, listed(c.want))
	}
}

// P12.2: Set refuses a score that is none, of a name that is there and of one that is not, and leaves all as it was.
func TestSetRefuses(t *testing.T) {
	for _, line := range []string{"", "a 1", "a 1 b 2 c 3", "b 2"} {
		for _, name := range []string{"", "a", "b", "c", "d"} {
			for _, none := range []int{top + 1, -top - 1, 2 * top, -2 * top, math.MaxInt, math.MinInt} {
				r := made(t, line)
				if is, e := r.Set(name, none); is || e != api.ErrScore {
					t.Errorf("Set(%q, %d): %t %d", name, none, is, e)
				}
				holds(t, "behind a Set that is refused", r, listed(line))
				if !strings.Contains(line, name) || name == "" {
					lacks(t, "behind a Set that is refused", r, name)
				}
			}
		}
	}
	r := new(Rank)
	if is, e := r.Set("a", top+1); is || e != api.ErrScore || r.Len() != 0 {
		t.Errorf("Set of the zero Rank: %t %d", is, e)
	}
}

// P12.2, P12.3: Score and Place of names that are there, with the score 0 and at the place 0 too, and of others that are near.
func TestScoreAndPlace(t *testing.T) {
	r := made(t, "z -1 a 0 ab 0 b 5")
	for i, e := range listed("z -1 a 0 ab 0 b 5") {
		has(t, "Score", r, e.Name, e.Score)
		if place, ok := r.Place(e.Name, false); place != i || !ok {
			t.Errorf("Place(%q): %d %t", e.Name, place, ok)
		}
		if place, ok := r.Place(e.Name, true); place != 3-i || !ok {
			t.Errorf("Place(%q, reverse): %d %t", e.Name, place, ok)
		}
	}
	for _, name := range []string{"", "A", "aa", "abc", "a\x00", "\x00a", "0", "c", "\xff", "-1"} {
		lacks(t, "of others", r, name)
		lacks(t, "of none", made(t, ""), name)
	}
	holds(t, "behind Score and Place", r, listed("z -1 a 0 ab 0 b 5"))
}

// P12.2: Drop of a name that is there, of one that is there no more, and of one that never was.
func TestDrop(t *testing.T) {
	r := made(t, "_ 0 a 1 ab 1 b 2 c 2")
	for _, c := range []struct {
		name  string
		there bool
		left  string
	}{
		{"d", false, "_ 0 a 1 ab 1 b 2 c 2"}, {"A", false, "_ 0 a 1 ab 1 b 2 c 2"}, {"a\x00", false, "_ 0 a 1 ab 1 b 2 c 2"},
		{"a", true, "_ 0 ab 1 b 2 c 2"}, {"a", false, "_ 0 ab 1 b 2 c 2"},
		{"c", true, "_ 0 ab 1 b 2"}, {"c", false, "_ 0 ab 1 b 2"},
		{"", true, "ab 1 b 2"}, {"", false, "ab 1 b 2"},
		{"b", true, "ab 1"}, {"ab", true, ""}, {"ab", false, ""}, {"d", false, ""},
	} {
		if r.Drop(c.name) != c.there {
			t.Errorf("Drop(%q): %t", c.name, !c.there)
		}
		lacks(t, "behind Drop", r, c.name)
		holds(t, "behind Drop("+c.name+")", r, listed(c.left))
	}
	if is, e := r.Set("a", 2); !is || e != api.OK {
		t.Errorf("Set behind Drop: %t %d", is, e)
	}
	holds(t, "Set behind Drop", r, listed("a 2"))
}

// P12.2: the entries are dropped in every order, and the others stay as they were.
func TestDropInEveryOrder(t *testing.T) {
	entries := listed("a 1 b 2 c 2 d 2 e 3 f 4")
	for _, order := range orders(entries) {
		r := of(t, entries)
		left := slices.Clone(entries)
		for _, e := range order {
			if !r.Drop(e.Name) || r.Drop(e.Name) {
				t.Fatalf("Drop(%q) in %v", e.Name, order)
			}
			left = slices.DeleteFunc(left, func(other api.Scored) bool { return other == e })
			if !slices.Equal(r.List(), left) || r.Len() != len(left) {
				t.Fatalf("%v: %v, not %v", order, r.List(), left)
			}
		}
	}
}

// P12.3: Slice from either end: places below 0, below 0 still, beyond the end, and to less than from.
func TestSlice(t *testing.T) {
	const least, greatest = math.MinInt, math.MaxInt
	r := made(t, "a 1 b 2 c 2 d 3")
	for _, c := range []struct {
		from, to      int
		names, turned string
	}{
		{0, 3, "abcd", "dcba"}, {0, -1, "abcd", "dcba"}, {-4, -1, "abcd", "dcba"}, {-4, 3, "abcd", "dcba"},
		{0, 4, "abcd", "dcba"}, {0, greatest, "abcd", "dcba"}, {-5, 9, "abcd", "dcba"}, {least, greatest, "abcd", "dcba"}, {least, -1, "abcd", "dcba"},
		{0, 0, "a", "d"}, {1, 1, "b", "c"}, {3, 3, "d", "a"}, {-1, -1, "d", "a"}, {-4, -4, "a", "d"}, {-1, 3, "d", "a"}, {3, -1, "d", "a"},
		{1, 2, "bc", "cb"}, {1, -2, "bc", "cb"}, {-3, 2, "bc", "cb"}, {-3, -2, "bc", "cb"}, {0, 1, "ab", "dc"}, {2, 3, "cd", "ba"}, {2, 9, "cd", "ba"},
		{-2, greatest, "cd", "ba"}, {-99, 0, "a", "d"}, {least, 0, "a", "d"}, {-99, -4, "a", "d"}, {-5, 1, "ab", "dc"}, {3, greatest, "d", "a"},
		{0, -5, "", ""}, {0, -99, "", ""}, {0, least, "", ""}, {-99, -5, "", ""}, {least, least, "", ""}, {-5, -5, "", ""},
		{1, 0, "", ""}, {3, 2, "", ""}, {-1, -2, "", ""}, {-1, 0, "", ""}, {2, -3, "", ""}, {3, least, "", ""},
		{4, 4, "", ""}, {4, 9, "", ""}, {4, 3, "", ""}, {4, -1, "", ""}, {9, 5, "", ""}, {greatest, greatest, "", ""}, {greatest, least, "", ""}, {greatest, -1, "", ""}, {greatest, 0, "", ""},
	} {
		if got := names(r.Slice(c.from, c.to, false)); got != c.names {
			t.Errorf("Slice(%d, %d): %s, not %s", c.from, c.to, got, c.names)
		}
		if got := names(r.Slice(c.from, c.to, true)); got != c.turned {
			t.Errorf("Slice(%d, %d, reverse): %s, not %s", c.from, c.to, got, c.turned)
		}
		for _, reverse := range []bool{false, true} {
			tells(t, "Slice of none", made(t, "").Slice(c.from, c.to, reverse), nil)
		}
	}
	tells(t, "Slice", r.Slice(1, -1, false), listed("b 2 c 2 d 3"))
	tells(t, "Slice reverse", r.Slice(1, -1, true), listed("c 2 b 2 a 1"))
	holds(t, "behind Slice", r, listed("a 1 b 2 c 2 d 3"))
}

// names is the names of entries, one behind the other.
func names(l []api.Scored) string {
	s := ""
	for _, e := range l {
		s += e.Name
	}
	return s
}

// P12.5: Pop of n below 0, 0, within and above Len, from either end, and what is left behind it.
func TestPop(t *testing.T) {
	entries := listed("z -7 a 1 b 2 c 2 d 3")
	for _, n := range []int{math.MinInt, -1, 0, 1, 2, 3, 4, 5, 6, math.MaxInt} {
		for _, greatest := range []bool{false, true} {
			r := of(t, entries)
			take := min(max(n, 0), len(entries))
			want, left := slices.Clone(entries[:take]), entries[take:]
			if greatest {
				want, left = slices.Clone(entries[len(entries)-take:]), entries[:len(entries)-take]
				slices.Reverse(want)
			}
			what := fmt.Sprintf("Pop(%d, %t)", n, greatest)
			tells(t, what, r.Pop(n, greatest), want)
			holds(t, "behind "+what, r, left)
			for _, e := range want {
				lacks(t, "behind "+what, r, e.Name)
				if r.Drop(e.Name) {
					t.Errorf("Drop(%q) behind %s", e.Name, what)
				}
			}
			for _, e := range want {
				if is, errno := r.Set(e.Name, e.Score); !is || errno != api.OK {
					t.Errorf("Set(%q) behind %s: %t %d", e.Name, what, is, errno)
				}
			}
			holds(t, "laid back behind "+what, r, entries)
			tells(t, what+" of none", made(t, "").Pop(n, greatest), nil)
		}
	}
}

// P12.5: Pop again and again, from both ends by turns, tells each entry once.
func TestPopAgain(t *testing.T) {
	r := made(t, "a 1 b 2 c 2 d 3 e 4 f 4 g 9")
	var told []string
	for i := range 6 {
		told = append(told, names(r.Pop(i%3, i%2 == 1)))
	}
	if got := strings.Join(told, " "); got != " g ab  c fe" {
		t.Errorf("told: %s", got)
	}
	holds(t, "at the end", r, listed("d 3"))
}

// P12.5: All goes over the entries in the order; it may be left at any time, gone over again, and nested.
func TestAll(t *testing.T) {
	row := listed("b -1 _ 0 a 0 aa 0 A 3")
	r := of(t, row)
	all := r.All()
	for leave := range 7 {
		var seen []api.Scored
		for name, score := range all {
			if len(seen) == leave {
				break
			}
			seen = append(seen, api.Scored{Name: name, Score: score})
		}
		tells(t, "All left", seen, row[:min(leave, 5)])
		tells(t, "All again", gone(all), row)
	}
	for range made(t, "").All() {
		t.Error("All of none")
	}
}

// P12.5: one All within itself, and within another, left there too.
func TestAllNested(t *testing.T) {
	r := made(t, "c 1 b 2 a 3")
	all := r.All()
	var seen []string
	for a := range all {
		for b, score := range all {
			if b == "a" {
				break
			}
			seen = append(seen, a+b+strconv.Itoa(score))
			for c := range r.All() {
				seen = append(seen, c)
				if c == b {
					break
				}
			}
		}
	}
	if told := strings.Join(seen, " "); told != "cc1 c cb2 c b bc1 c bb2 c b ac1 c ab2 c b" {
		t.Errorf("nested: %s", told)
	}
}

// P12.5: an All that is left goes no further.
func TestAllLeft(t *testing.T) {
	calls := 0
	made(t, "a 1 b 2 c 3").All()(func(string, int) bool {
		calls++
		return calls < 2
	})
	if calls != 2 {
		t.Errorf("%d calls", calls)
	}
}

// P12.5: All goes over what was there when it was called, whatever is done ahead of its first step and meanwhile.
func TestAllMeanwhile(t *testing.T) {
	row := listed("a 1 b 2 c 3")
	changes := map[string]func(r *Rank){
		"nothing":   func(r *Rank) {},
		"Set new":   func(r *Rank) { r.Set("", 0); r.Set("aa", 1); r.Set("bb", 2); r.Set("z", 9) },
		"Set old":   func(r *Rank) { r.Set("a", 9); r.Set("b", -9); r.Set("c", 2) },
		"Drop":      func(r *Rank) { r.Drop("a"); r.Drop("b"); r.Drop("c") },
		"Drop none": func(r *Rank) { r.Drop("z"); r.Drop("") },
		"Pop":       func(r *Rank) { r.Pop(1, true); r.Pop(9, false) },
		"refused":   func(r *Rank) { r.Set("b", top+1); r.Set("z", -top-1) },
		"asked": func(r *Rank) {
			r.Len()
			r.Score("b")
			r.Place("b", true)
			r.List()
			r.Slice(0, 1, true)
			r.All()
		},
		"gone over": func(r *Rank) { gone(r.All()); r.Drop("b"); gone(r.All()) },
	}
	for what, change := range changes {
		r := of(t, row)
		all := r.All()
		change(r)
		tells(t, what+" ahead of the first step", gone(all), row)
		for step := range 3 {
			r := of(t, row)
			all := r.All()
			var seen []api.Scored
			for name, score := range all {
				if len(seen) == step {
					change(r)
				}
				seen = append(seen, api.Scored{Name: name, Score: score})
			}
			tells(t, what+" meanwhile", seen, row)
			tells(t, what+" meanwhile, again", gone(all), row)
			other := of(t, row)
			change(other)
			holds(t, what+" meanwhile", r, other.List())
		}
	}
	r := of(t, row)
	for name, score := range r.All() {
		r.Drop(name)
		r.Set(name+"'", -score)
	}
	holds(t, "each dropped and another set", r, []api.Scored{{Name: "c'", Score: -3}, {Name: "b'", Score: -2}, {Name: "a'", Score: -1}})
}

// The chapter's examples.
func TestExamples(t *testing.T) {
	r := made(t, "a 1 b 2 c 2 d 3")
	told := func(what string, got []api.Scored, want string) {
		t.Helper()
		if names(got) != want {
			t.Errorf("%s: %s, not %s", what, names(got), want)
		}
	}
	if place, ok := r.Place("c", false); place != 2 || !ok {
		t.Errorf("Place: %d %t", place, ok)
	}
	if place, ok := r.Place("c", true); place != 1 || !ok {
		t.Errorf("Place reverse: %d %t", place, ok)
	}
	told("Slice", r.Slice(1, -1, false), "bcd")
	told("Slice", r.Slice(0, 1, true), "dc")
	told("Slice", r.Slice(-99, 0, false), "a")
	told("Slice", r.Slice(0, -99, false), "")
	above1, to2 := api.Bound{Open: true, Score: 1}, api.Bound{Score: 2}
	told("Scores", r.Scores(above1, to2, false, 0, -1), "bc")
	told("Scores", r.Scores(above1, to2, true, 0, -1), "cb")
	told("Scores", r.Scores(above1, to2, true, 1, 1), "b")
	told("Scores", r.Scores(api.Bound{Score: 3}, api.Bound{Score: 1}, false, 0, -1), "")
	told("Scores", r.Scores(api.Bound{Open: true, Score: 2}, api.Bound{Open: true, Score: 2}, false, 0, -1), "")
	told("Names", r.Names(api.Bound{Name: "b"}, api.Bound{Open: true, Name: "d"}, false, 0, -1), "bc")
	told("Pop", r.Pop(2, true), "dc")
	if r.Len() != 2 {
		t.Errorf("Len: %d", r.Len())
	}
	if is, e := r.Set("e", 1<<53+1); is || e != api.ErrScore {
		t.Errorf("Set: %t %d", is, e)
	}
	if is, e := r.Set("a", 5); is || e != api.OK {
		t.Errorf("Set: %t %d", is, e)
	}
	holds(t, "at the end", r, listed("b 2 a 5"))
}

// A nil Rank answers zero values, and keeps nothing.
func TestNil(t *testing.T) {
	var r *Rank
	numbers := []int{math.MinInt, -top - 1, -1, 0, 1, top + 1, math.MaxInt}
	bounds := []api.Bound{{}, {Inf: -1}, {Inf: 1}, {Open: true, Score: 1, Name: "a"}}
	for range 2 {
		for _, name := range []string{"", "a"} {
			for _, score := range numbers {
				if is, e := r.Set(name, score); is || e != api.OK {
					t.Errorf("Set(%q, %d): %t %d", name, score, is, e)
				}
			}
			if r.Drop(name) {
				t.Errorf("Drop(%q): true", name)
			}
			lacks(t, "nil", r, name)
		}
		for _, reverse := range []bool{false, true} {
			for _, a := range numbers {
				tells(t, "Pop", r.Pop(a, reverse), nil)
				for _, b := range numbers {
					tells(t, "Slice", r.Slice(a, b, reverse), nil)
					for _, lo := range bounds {
						for _, hi := range bounds {
							tells(t, "Scores", r.Scores(lo, hi, reverse, a, b), nil)
							tells(t, "Names", r.Names(lo, hi, reverse, a, b), nil)
						}
					}
				}
			}
		}
		all := r.All()
		for range 2 {
			tells(t, "All", gone(all), nil)
		}
		holds(t, "nil", r, nil)
	}
}

// A Rank that is written as its zero value is one of no entries, on which every call works.
func TestZero(t *testing.T) {
	for what, use := range map[string]func(r *Rank){
		"nothing": func(r *Rank) {},
		"Set":     func(r *Rank) { r.Set("a", 5); r.Drop("a") },
		"Pop":     func(r *Rank) { r.Pop(1, true); r.Set("a", 5); r.Pop(1, false) },
		"Drop":    func(r *Rank) { r.Drop("a") },
	} {
		r := new(Rank)
		use(r)
		holds(t, what, r, nil)
		lacks(t, what, r, "a")
		if is, e := r.Set("a", 5); !is || e != api.OK {
			t.Errorf("%s: Set: %t %d", what, is, e)
		}
		holds(t, what, r, listed("a 5"))
	}
}
