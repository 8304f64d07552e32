package rank

import (
	"math/rand"
	"slices"
	"strconv"
	"testing"

	"covenant/api"
)

// spoil writes over a list and over the spare room behind it.
func spoil(list []api.Scored) {
	list = list[:cap(list)]
	for i := range list {
		list[i] = api.Scored{Name: "spoilt", Score: 77}
	}
}

// R4: what is handed in is neither changed nor kept, what lies behind its end neither.
func TestNotKept(t *testing.T) {
	row := listed("e 5 d 4 c 3 b 2 a 1")
	room := slices.Clone(row)
	r := of(t, room[1:4])
	tells(t, "behind Of", room, row)
	r.Set("b", 9)
	r.Set("bb", 0)
	r.Drop("c")
	r.Pop(1, true)
	spoil(r.List())
	spoil(r.Slice(0, 1, true))
	tells(t, "behind other calls", room, row)
	spoil(room)
	holds(t, "behind a change of what was handed in", r, listed("bb 0 d 4"))

	for _, refused := range [][]api.Scored{listed("c 1 a 2 c 3"), {{Name: "b", Score: top + 1}, {Name: "a", Score: 1}}} {
		was := slices.Clone(refused)
		Of(refused)
		tells(t, "behind an Of that is refused", refused, was)
	}
}

// R4: what is handed out is new memory, spare room too: whatever is written there changes neither the rank nor another answer.
func TestNewMemory(t *testing.T) {
	row := listed("a 1 b 2 c 2 d 3 e 4")
	lo, hi := api.Bound{Score: 2, Name: "b"}, api.Bound{Score: 3, Name: "d"}
	below, above := api.Bound{Inf: -1}, api.Bound{Inf: 1}
	for what, ask := range map[string]func(r *Rank) []api.Scored{
		"List":           func(r *Rank) []api.Scored { return r.List() },
		"Slice":          func(r *Rank) []api.Scored { return r.Slice(1, 3, false) },
		"Slice of all":   func(r *Rank) []api.Scored { return r.Slice(0, -1, false) },
		"Slice reverse":  func(r *Rank) []api.Scored { return r.Slice(1, 3, true) },
		"Slice of none":  func(r *Rank) []api.Scored { return r.Slice(3, 1, true) },
		"Scores":         func(r *Rank) []api.Scored { return r.Scores(lo, hi, false, 0, -1) },
		"Scores of all":  func(r *Rank) []api.Scored { return r.Scores(below, above, false, 0, -1) },
		"Scores reverse": func(r *Rank) []api.Scored { return r.Scores(lo, hi, true, 1, 1) },
		"Scores of none": func(r *Rank) []api.Scored { return r.Scores(hi, lo, false, 0, -1) },
		"Names":          func(r *Rank) []api.Scored { return r.Names(lo, hi, false, 0, -1) },
		"Names of all":   func(r *Rank) []api.Scored { return r.Names(below, above, false, 0, -1) },
		"Names reverse":  func(r *Rank) []api.Scored { return r.Names(lo, hi, true, 1, 1) },
		"Names of none":  func(r *Rank) []api.Scored { return r.Names(hi, lo, false, 0, -1) },
		"Pop of none":    func(r *Rank) []api.Scored { return r.Pop(0, true) },
	} {
		r := of(t, row)
		all, list, again := r.All(), r.List(), ask(r)
		was := slices.Clone(again)
		spoil(ask(r))
		holds(t, what+" written over", r, row)
		tells(t, what+": the List ahead", list, row)
		tells(t, what+": the All ahead", gone(all), row)
		tells(t, what+" ahead", again, was)
		tells(t, what+" behind", ask(r), was)
	}
	r := of(t, row)
	list, first, last := r.List(), r.Pop(1, false), r.Pop(2, true)
	spoil(first)
	tells(t, "the other Pop", last, listed("e 4 d 3"))
	tells(t, "the List ahead of Pop", list, row)
	spoil(last)
	holds(t, "Pop written over", r, listed("b 2 c 2"))
}

// R4: an answer stays as it is, whatever is done to the rank behind it.
func TestAnswersStay(t *testing.T) {
	r := made(t, "a 1 b 2 c 3 d 4")
	list, piece, between, named := r.List(), r.Slice(0, 1, true), r.Scores(api.Bound{Score: 2}, api.Bound{Score: 3}, false, 0, -1), r.Names(api.Bound{Inf: -1}, api.Bound{Name: "b"}, false, 0, -1)
	popped := r.Pop(1, true)
	r.Set("a", 9)
	r.Set("b", -9)
	r.Set("aa", 1)
	r.Drop("c")
	r.Pop(1, false)
	tells(t, "List", list, listed("a 1 b 2 c 3 d 4"))
	tells(t, "Slice", piece, listed("d 4 c 3"))
	tells(t, "Scores", between, listed("b 2 c 3"))
	tells(t, "Names", named, listed("a 1 b 2"))
	tells(t, "Pop", popped, listed("d 4"))
	other := of(t, list)
	r.Drop("aa")
	holds(t, "Of of List", other, listed("a 1 b 2 c 3 d 4"))
	holds(t, "at the end", r, listed("a 9"))
}

// R5: what is told does not hang on a map's order, nor on the order in which the entries came.
func TestAnyOrder(t *testing.T) {
	var want []api.Scored
	for i := range 200 {
		want = append(want, api.Scored{Name: strconv.Itoa(1000 + i), Score: i / 7})
	}
	for seed := range int64(20) {
		r := made(t, "")
		for _, i := range rand.New(rand.NewSource(seed)).Perm(200) {
			r.Set(want[i].Name, want[i].Score)
		}
		for range 3 {
			tells(t, "List", r.List(), want)
			tells(t, "All", gone(r.All()), want)
			tells(t, "Slice", r.Slice(50, 60, false), want[50:61])
			tells(t, "Scores", r.Scores(api.Bound{Score: 3}, api.Bound{Score: 4}, false, 0, -1), want[21:35])
			tells(t, "Names", r.Names(api.Bound{Name: "1150"}, api.Bound{Name: "1160"}, false, 0, -1), want[150:161])
		}
	}
}

// Names that are there no more, and scores that a name had, are not kept.
func TestLetGo(t *testing.T) {
	r := made(t, "a 1")
	for i := range 100 {
		name := strconv.Itoa(i)
		r.Set(name, i)
		r.Set(name, -i)
		r.Set(name+"p", -1000)
		r.Drop(name)
		r.Pop(1, false)
	}
	if len(r.scores) != 1 || r.order.size != 1 || r.order.left != nil || r.order.right != nil {
		t.Errorf("kept: %d names, a tree of %d", len(r.scores), r.order.size)
	}
}

// deep is how long the longest way down a tree is; it fails where a size is wrong.
func deep(t *testing.T, at *tree) int {
	t.Helper()
	if at == nil {
		return 0
	}
	if at.size != at.left.len()+1+at.right.len() {
		t.Fatalf("size %d of %d and %d", at.size, at.left.len(), at.right.len())
	}
	return 1 + max(deep(t, at.left), deep(t, at.right))
}

// Calls about single entries of a large rank do not go over all of it, in whatever order the entries come and go.
func TestMuch(t *testing.T) {
	const many = 1 << 16
	ways := map[string]func(i int) int{
		"rising":   func(i int) int { return i },
		"falling":  func(i int) int { return many - 1 - i },
		"both":     func(i int) int { return (i%2)*(many-1-2*(i/2)) + i/2 },
		"anywhere": func(i int) int { return i * 40503 % many },
	}
	for what, score := range ways {
		r := made(t, "")
		for i := range many {
			if is, e := r.Set(strconv.Itoa(i), score(i)); !is || e != api.OK {
				t.Fatalf("%s: Set(%d): %t %d", what, i, is, e)
			}
		}
		if d := deep(t, r.order); d > 2*16 {
			t.Errorf("%s: %d deep", what, d)
		}
		for i := range many {
			place, _ := r.Place(strconv.Itoa(i), false)
			at := r.Slice(place, place, false)
			near := r.Scores(api.Bound{Score: score(i)}, api.Bound{Inf: 1}, false, 0, 1)
			if len(at) != 1 || at[0] != (api.Scored{Name: strconv.Itoa(i), Score: score(i)}) || len(near) != 1 || near[0].Score != score(i) {
				t.Fatalf("%s: Place(%d): %d, Slice %v, Scores %v", what, i, place, at, near)
			}
		}
		for i := range many / 2 {
			if !r.Drop(strconv.Itoa(i)) {
				t.Fatalf("%s: Drop(%d)", what, i)
			}
		}
		if d := deep(t, r.order); d > 2*15 {
			t.Errorf("%s: %d deep behind Drop", what, d)
		}
		for i := range many / 4 {
			if len(r.Pop(1, i%3 == 0)) != 1 {
				t.Fatalf("%s: Pop %d", what, i)
			}
		}
		if d := deep(t, r.order); d > 2*14 || r.Len() != many/4 {
			t.Errorf("%s: %d deep behind Pop, Len %d", what, d, r.Len())
		}
		left := r.List()
		for i := 1; i < len(left); i++ {
			if left[i-1].Score >= left[i].Score {
				t.Fatalf("%s: %v ahead of %v", what, left[i-1], left[i])
			}
		}
	}
}
