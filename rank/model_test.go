package rank

import (
	"fmt"
	"math"
	"math/rand"
	"slices"
	"testing"

	"covenant/api"
)

// call is one call that may change a rank.
type call struct {
	what, name string
	n          int
	greatest   bool
}

// do is the call of a rank, and all that it answers.
func do(r *Rank, c call) string {
	switch c.what {
	case "set":
		return fmt.Sprint(r.Set(c.name, c.n))
	case "drop":
		return fmt.Sprint(r.Drop(c.name))
	}
	return told(r.Pop(c.n, c.greatest))
}

// told is a list as a text; one that is nil and one of length 0 are the same.
func told(l []api.Scored) string {
	s := ""
	for _, e := range l {
		s += fmt.Sprintf("%q %d ", e.Name, e.Score)
	}
	return s
}

// model is a rank by the chapter's words, told another way: a list of entries in no order, of which one is found by looking at all.
type model struct {
	list []api.Scored
}

func (m *model) find(name string) int {
	return slices.IndexFunc(m.list, func(e api.Scored) bool { return e.Name == name })
}

func (m *model) do(c call) string {
	at := m.find(c.name)
	switch c.what {
	case "set":
		if c.n > top || c.n < -top {
			return "false 120"
		}
		if at >= 0 {
			m.list[at].Score = c.n
		} else {
			m.list = append(m.list, api.Scored{Name: c.name, Score: c.n})
		}
		return fmt.Sprint(at < 0, 0)
	case "drop":
		if at >= 0 {
			m.list = slices.Delete(m.list, at, at+1)
		}
		return fmt.Sprint(at >= 0)
	}
	var popped []api.Scored
	for _, e := range m.sorted(c.greatest) {
		if len(popped) < c.n {
			popped = append(popped, e)
			at := m.find(e.Name)
			m.list = slices.Delete(m.list, at, at+1)
		}
	}
	return told(popped)
}

// less is the order of texts byte by byte.
func less(a, b string) bool {
	for i := range min(len(a), len(b)) {
		if a[i] != b[i] {
			return a[i] < b[i]
		}
	}
	return len(a) < len(b)
}

// sorted is the entries in the order, or turned round: each by how many others stand ahead of it.
func (m *model) sorted(reverse bool) []api.Scored {
	out := make([]api.Scored, len(m.list))
	for _, e := range m.list {
		ahead := 0
		for _, other := range m.list {
			if other.Score < e.Score || other.Score == e.Score && less(other.Name, e.Name) {
				ahead++
			}
		}
		if reverse {
			ahead = len(out) - 1 - ahead
		}
		out[ahead] = e
	}
	return out
}

func (m *model) place(name string, reverse bool) (int, bool) {
	for i, e := range m.sorted(reverse) {
		if e.Name == name {
			return i, true
		}
	}
	return 0, false
}

// slice goes over all places, and asks of each whether it lies between both.
func (m *model) slice(from, to int, reverse bool) []api.Scored {
	var out []api.Scored
	n := len(m.list)
	for i, e := range m.sorted(reverse) {
		behindFrom := from >= 0 && i >= from || from < 0 && i-n >= from
		aheadOfTo := to >= 0 && i <= to || to < 0 && i-n <= to
		if behindFrom && aheadOfTo {
			out = append(out, e)
		}
	}
	return out
}

// ahead says whether a score, or a name, lies where a bound does not let it as a lower one.
func ahead(b api.Bound, isLess, isSame bool) bool {
	if b.Inf != 0 {
		return b.Inf > 0
	}
	return isLess || isSame && b.Open
}

// behind says whether a score, or a name, lies where a bound does not let it as an upper one.
func behind(b api.Bound, isGreater, isSame bool) bool {
	if b.Inf != 0 {
		return b.Inf < 0
	}
	return isGreater || isSame && b.Open
}

func (m *model) scores(lo, hi api.Bound, reverse bool, skip, most int) []api.Scored {
	return m.between(reverse, skip, most, func(e api.Scored) bool {
		return !ahead(lo, e.Score < lo.Score, e.Score == lo.Score) && !behind(hi, e.Score > hi.Score, e.Score == hi.Score)
	})
}

func (m *model) names(lo, hi api.Bound, reverse bool, skip, most int) []api.Scored {
	return m.between(reverse, skip, most, func(e api.Scored) bool {
		return !ahead(lo, less(e.Name, lo.Name), e.Name == lo.Name) && !behind(hi, less(hi.Name, e.Name), e.Name == hi.Name)
	})
}

func (m *model) between(reverse bool, skip, most int, lets func(e api.Scored) bool) []api.Scored {
	var out []api.Scored
	for _, e := range m.sorted(reverse) {
		switch {
		case !lets(e):
		case skip > 0:
			skip--
		case most < 0 || len(out) < most:
			out = append(out, e)
		}
	}
	return out
}

// same fails unless a rank holds what the model holds, and tells of these names what it tells.
func (m *model) same(t *testing.T, r *Rank, names []string, script any) {
	t.Helper()
	want := m.sorted(false)
	if !slices.Equal(r.List(), want) || !slices.Equal(gone(r.All()), want) || r.Len() != len(want) {
		t.Fatalf("%v: List %s, All %s, Len %d, not %s", script, told(r.List()), told(gone(r.All())), r.Len(), told(want))
	}
	for _, name := range names {
		at := m.find(name)
		score, ok := r.Score(name)
		if ok != (at >= 0) || ok && score != m.list[at].Score || !ok && score != 0 {
			t.Fatalf("%v: Score(%q): %d %t of %s", script, name, score, ok, told(want))
		}
		for _, reverse := range []bool{false, true} {
			place, ok := r.Place(name, reverse)
			wantPlace, wantOk := m.place(name, reverse)
			if place != wantPlace || ok != wantOk {
				t.Fatalf("%v: Place(%q, %t): %d %t of %s", script, name, reverse, place, ok, told(want))
			}
		}
	}
}

// sameBetween fails unless a rank tells what the model tells between these bounds.
func (m *model) sameBetween(t *testing.T, r *Rank, lo, hi api.Bound, skip, most int) {
	t.Helper()
	for _, reverse := range []bool{false, true} {
		if got, want := r.Scores(lo, hi, reverse, skip, most), m.scores(lo, hi, reverse, skip, most); !slices.Equal(got, want) {
			t.Fatalf("Scores(%+v, %+v, %t, %d, %d): %s, not %s", lo, hi, reverse, skip, most, told(got), told(want))
		}
		if got, want := r.Names(lo, hi, reverse, skip, most), m.names(lo, hi, reverse, skip, most); !slices.Equal(got, want) {
			t.Fatalf("Names(%+v, %+v, %t, %d, %d): %s, not %s", lo, hi, reverse, skip, most, told(got), told(want))
		}
	}
}

// sameSlice fails unless a rank tells what the model tells from one place to another.
func (m *model) sameSlice(t *testing.T, r *Rank, from, to int) {
	t.Helper()
	for _, reverse := range []bool{false, true} {
		if got, want := r.Slice(from, to, reverse), m.slice(from, to, reverse); !slices.Equal(got, want) {
			t.Fatalf("Slice(%d, %d, %t): %s, not %s", from, to, reverse, told(got), told(want))
		}
	}
}

// P12.2 to P12.5: every script of few calls about three names, one the beginning of another.
func TestShortScripts(t *testing.T) {
	names := []string{"", "a", "a\x00"}
	calls := []call{{what: "set", name: "a", n: top + 1}, {what: "pop", n: 1}, {what: "pop", n: 2, greatest: true}, {what: "pop", n: -1}}
	for _, name := range names {
		calls = append(calls, call{what: "set", name: name}, call{what: "set", name: name, n: -1}, call{what: "drop", name: name})
	}
	asked := append(names, "\x00", "a\x00\x00", "b")
	var walk func(script []call, left int)
	walk = func(script []call, left int) {
		r, m := made(t, ""), &model{}
		for _, c := range script {
			if got, want := do(r, c), m.do(c); got != want {
				t.Fatalf("%+v: %s, not %s", script, got, want)
			}
		}
		m.same(t, r, asked, script)
		for _, c := range calls {
			if left > 0 {
				walk(append(script[:len(script):len(script)], c), left-1)
			}
		}
	}
	walk(nil, 4)
}

// P12.3, P12.7: Slice of ranks of up to five entries, from every place to every other one, in bounds and beyond them.
func TestEverySlice(t *testing.T) {
	entries := listed("a 1 b 2 c 2 _ 3 d 3")
	places := []int{math.MinInt, math.MinInt + 1, math.MaxInt - 1, math.MaxInt}
	for i := -8; i <= 8; i++ {
		places = append(places, i)
	}
	for n := range len(entries) + 1 {
		r, m := of(t, entries[:n]), &model{slices.Clone(entries[:n])}
		for _, from := range places {
			for _, to := range places {
				m.sameSlice(t, r, from, to)
			}
		}
		for from := range n {
			for to := range n {
				tells(t, "Slice turned", r.Slice(from, to, true), turned(r.Slice(n-1-to, n-1-from, false)))
			}
		}
	}
}

// anyBounds is bounds of every kind, at scores and names that are there and that are not.
func anyBounds() []api.Bound {
	all := []api.Bound{{Inf: -1}, {Inf: 1}, {Inf: math.MinInt, Open: true, Score: 2, Name: "b"}, {Inf: math.MaxInt, Score: 2, Name: "b"}}
	names := []string{"", "\x00", "a", "b", "b\x00", "bb", "c", "\xff"}
	for i, score := range []int{math.MinInt, -2, -1, 0, 1, 2, 3, math.MaxInt} {
		all = append(all, api.Bound{Score: score, Name: names[i]}, api.Bound{Open: true, Score: score, Name: names[len(names)-1-i]})
	}
	return all
}

// P12.4: Scores and Names between every two bounds, with every skip and most.
func TestEveryInterval(t *testing.T) {
	for _, line := range []string{"", "b 0", "b -1 a 0 bb 2", "_ 2 a 2 b 2", "c -2 _ -1 bb -1 b 1 a 2 d 2"} {
		r, m := made(t, line), &model{listed(line)}
		for _, lo := range anyBounds() {
			for _, hi := range anyBounds() {
				for _, skip := range []int{math.MinInt, -1, 0, 1, 2, 7, math.MaxInt} {
					for _, most := range []int{math.MinInt, -1, 0, 1, 2, 7, math.MaxInt} {
						m.sameBetween(t, r, lo, hi, skip, most)
					}
				}
			}
		}
	}
}

// P12.7: of any two bounds each entry is either in Scores of them, or its score is below the lower or above the upper one; so by names.
func TestInOrOut(t *testing.T) {
	r := made(t, "c -2 _ -1 bb -1 b 1 a 2 d 2 e 3")
	for _, lo := range anyBounds() {
		for _, hi := range anyBounds() {
			scores, names := r.Scores(lo, hi, false, 0, -1), r.Names(lo, hi, false, 0, -1)
			for _, e := range r.List() {
				out := ahead(lo, e.Score < lo.Score, e.Score == lo.Score) || behind(hi, e.Score > hi.Score, e.Score == hi.Score)
				if slices.Contains(scores, e) == out {
					t.Errorf("Scores(%+v, %+v) and %v", lo, hi, e)
				}
				out = ahead(lo, less(e.Name, lo.Name), e.Name == lo.Name) || behind(hi, less(hi.Name, e.Name), e.Name == hi.Name)
				if slices.Contains(names, e) == out {
					t.Errorf("Names(%+v, %+v) and %v", lo, hi, e)
				}
			}
		}
	}
}

// anyText is a text of up to three bytes, of few kinds or of all, so that names meet again.
func anyText(rnd *rand.Rand) string {
	b := make([]byte, rnd.Intn(4))
	for i := range b {
		b[i] = "\x00ab\xff"[rnd.Intn(4)]
		if rnd.Intn(8) == 0 {
			b[i] = byte(rnd.Intn(256))
		}
	}
	return string(b)
}

// anyNumber is a number, a small one, one near an end of the scores, or any.
func anyNumber(rnd *rand.Rand) int {
	switch rnd.Intn(8) {
	case 0:
		return top - 2 + rnd.Intn(4)
	case 1:
		return -top + 2 - rnd.Intn(4)
	case 2:
		return int(rnd.Uint64()) >> rnd.Intn(64)
	}
	return rnd.Intn(9) - 4
}

// anyBound is a bound of any kind.
func anyBound(rnd *rand.Rand) api.Bound {
	b := api.Bound{Open: rnd.Intn(2) == 0, Score: anyNumber(rnd), Name: anyText(rnd)}
	if rnd.Intn(4) == 0 {
		b.Inf = rnd.Intn(5) - 2
	}
	return b
}

// anyCall is a call of any kind about one of these names.
func anyCall(rnd *rand.Rand, names []string) call {
	c := call{what: "set", name: names[rnd.Intn(len(names))], n: anyNumber(rnd)}
	switch rnd.Intn(8) {
	case 0, 1:
		c.what = "drop"
	case 2:
		c.what, c.n, c.greatest = "pop", rnd.Intn(4)-1, rnd.Intn(2) == 0
	}
	return c
}

// P12.1 to P12.5, P12.7: long scripts over many names with bytes of every kind.
func TestLongScripts(t *testing.T) {
	for seed := range int64(60) {
		rnd := rand.New(rand.NewSource(seed))
		names := make([]string, 1+rnd.Intn(60))
		for i := range names {
			names[i] = anyText(rnd)
		}
		r, m := made(t, ""), &model{}
		for step := range 150 {
			c := anyCall(rnd, names)
			if got, want := do(r, c), m.do(c); got != want {
				t.Fatalf("seed %d, step %d, %+v: %s, not %s", seed, step, c, got, want)
			}
			m.same(t, r, []string{c.name, names[rnd.Intn(len(names))], anyText(rnd)}, step)
			m.sameSlice(t, r, rnd.Intn(20)-10, rnd.Intn(20)-10)
			m.sameBetween(t, r, anyBound(rnd), anyBound(rnd), rnd.Intn(8)-2, rnd.Intn(8)-2)
			follows(t, r)
		}
	}
}

// follows fails unless what the chapter says follows is so of a rank.
func follows(t *testing.T, r *Rank) {
	t.Helper()
	want := r.List()
	back, e := Of(want)
	if e != api.OK || !slices.Equal(back.List(), want) || back.Len() != len(want) {
		t.Fatalf("Of of List %s: %d %s", told(want), e, told(back.List()))
	}
	if all := r.Scores(api.Bound{Inf: -1}, api.Bound{Inf: 1}, false, 0, -1); !slices.Equal(all, want) {
		t.Fatalf("Scores of all: %s, not %s", told(all), told(want))
	}
	n := len(want)
	for i, e := range want {
		place, ok := r.Place(e.Name, false)
		reverse, also := r.Place(e.Name, true)
		if place != i || reverse != n-1-i || !ok || !also {
			t.Fatalf("Place(%q): %d and %d of %s", e.Name, place, reverse, told(want))
		}
		if !slices.Equal(r.Slice(i, -2, true), turned(r.Slice(1, n-1-i, false))) {
			t.Fatalf("Slice from %d: %s and %s", i, told(r.Slice(i, -2, true)), told(r.Slice(1, n-1-i, false)))
		}
	}
}

// P12.2: what is set, dropped or popped changes nothing of the others.
func TestNothingElse(t *testing.T) {
	entries := listed("_ 5 A 5 a 5 aa 5 b 5 c 6 d 7")
	for _, own := range entries {
		for what, change := range map[string]func(r *Rank){
			"Set less":    func(r *Rank) { r.Set(own.Name, -5) },
			"Set same":    func(r *Rank) { r.Set(own.Name, own.Score) },
			"Set greater": func(r *Rank) { r.Set(own.Name, 9) },
			"Drop":        func(r *Rank) { r.Drop(own.Name) },
			"Set and Pop": func(r *Rank) { r.Set(own.Name, top); r.Pop(1, true) },
		} {
			r := of(t, entries)
			change(r)
			isOwn := func(e api.Scored) bool { return e.Name == own.Name }
			others := slices.DeleteFunc(slices.Clone(entries), isOwn)
			tells(t, what+" of "+own.Name, slices.DeleteFunc(r.List(), isOwn), others)
			for _, e := range others {
				has(t, what, r, e.Name, e.Score)
			}
			follows(t, r)
		}
	}
}
