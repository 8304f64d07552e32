package members

import (
	"fmt"
	"math"
	"math/rand"
	"slices"
	"testing"
)

// less is the order byte by byte.
func less(a, b string) bool {
	for i := range min(len(a), len(b)) {
		if a[i] != b[i] {
			return a[i] < b[i]
		}
	}
	return len(a) < len(b)
}

// stands says whether a text stands in a list, by looking at all of it.
func stands(l []string, m string) bool {
	for _, other := range l {
		if other == m {
			return true
		}
	}
	return false
}

// chosen is the model of every set: of all texts that stand somewhere those that are wanted, each laid at the place that as many lesser ones give it.
func chosen(ls [][]string, wanted func(m string) bool) []string {
	var each []string
	for _, l := range ls {
		for _, m := range l {
			if wanted(m) && !stands(each, m) {
				each = append(each, m)
			}
		}
	}
	set := make([]string, len(each))
	for _, m := range each {
		ahead := 0
		for _, other := range each {
			if less(other, m) {
				ahead++
			}
		}
		set[ahead] = m
	}
	return set
}

// inHowMany tells in how many lists a text stands.
func inHowMany(ls [][]string, m string) int {
	n := 0
	for _, l := range ls {
		if stands(l, m) {
			n++
		}
	}
	return n
}

// sameOfOne fails unless what is told of one list is what the model tells.
func sameOfOne(t *testing.T, l, asked []string) {
	t.Helper()
	set := chosen([][]string{l}, func(string) bool { return true })
	if got := Of(l); !slices.Equal(got, set) || !Valid(got) || Valid(l) != slices.Equal(l, set) {
		t.Fatalf("Of(%q): %q, Valid %t", l, got, Valid(l))
	}
	for _, m := range asked {
		if Has(l, m) != stands(l, m) {
			t.Fatalf("Has(%q, %q): %t", l, m, Has(l, m))
		}
		behind := chosen([][]string{l}, func(other string) bool { return less(m, other) })
		for _, most := range []int{math.MinInt, -1, 0, 1, 2, len(behind) - 1, len(behind), len(behind) + 1, math.MaxInt} {
			want := behind[:min(max(most, 0), len(behind))]
			if got := After(l, m, most); !slices.Equal(got, want) {
				t.Fatalf("After(%q, %q, %d): %q, not %q", l, m, most, got, want)
			}
			if most > 0 {
				walks(t, l, m, most, behind)
			}
		}
	}
}

// walks fails unless After, begun anew with the last one that it told, comes to all behind m, each once.
func walks(t *testing.T, l []string, m string, most int, behind []string) {
	t.Helper()
	var seen []string
	for last := m; len(seen) <= len(behind); last = seen[len(seen)-1] {
		more := After(l, last, most)
		if len(more) == 0 {
			break
		}
		seen = append(seen, more...)
	}
	if !slices.Equal(seen, behind) {
		t.Fatalf("After by %d from %q on of %q: %q", most, m, l, seen)
	}
}

// sameOfTwo fails unless what is told of a list and others added or taken away is what the model tells.
func sameOfTwo(t *testing.T, l, ms []string) {
	t.Helper()
	both := [][]string{l, ms}
	set := chosen(both, func(string) bool { return true })
	isNew := len(chosen(both, func(m string) bool { return !stands(l, m) }))
	if got, n := Add(l, ms...); !slices.Equal(got, set) || n != isNew {
		t.Fatalf("Add(%q, %q): %q %d, not %q %d", l, ms, got, n, set, isNew)
	}
	left := chosen(both, func(m string) bool { return stands(l, m) && !stands(ms, m) })
	gone := len(chosen(both, func(m string) bool { return stands(l, m) && stands(ms, m) }))
	if got, n := Remove(l, ms...); !slices.Equal(got, left) || n != gone {
		t.Fatalf("Remove(%q, %q): %q %d, not %q %d", l, ms, got, n, left, gone)
	}
	diff, inter := Diff(l, ms), Inter(l, ms)
	if len(Inter(diff, inter)) != 0 || !slices.Equal(Union(diff, inter), Of(l)) {
		t.Fatalf("Diff and Inter of %q and %q: %q and %q", l, ms, diff, inter)
	}
}

// sameOfMany fails unless what several lists have together is what the model tells.
func sameOfMany(t *testing.T, ls ...[]string) {
	t.Helper()
	for what, c := range map[string]struct {
		got    []string
		wanted func(m string) bool
	}{
		"Union": {Union(ls...), func(m string) bool { return inHowMany(ls, m) > 0 }},
		"Inter": {Inter(ls...), func(m string) bool { return inHowMany(ls, m) == len(ls) }},
		"Diff":  {Diff(ls...), func(m string) bool { return stands(ls[0], m) && inHowMany(ls, m) == 1 }},
	} {
		if want := chosen(ls, c.wanted); !slices.Equal(c.got, want) {
			t.Fatalf("%s(%q): %q, not %q", what, ls, c.got, want)
		}
	}
	all := len(chosen(ls, func(m string) bool { return inHowMany(ls, m) == len(ls) }))
	for _, most := range []int{math.MinInt, -1, 0, 1, 2, all - 1, all, all + 1, math.MaxInt} {
		want := all
		if most >= 1 {
			want = min(all, most)
		}
		if n := Count(most, ls...); n != want {
			t.Fatalf("Count(%d, %q): %d, not %d", most, ls, n, want)
		}
	}
}

// every is all lists of at most so many of these texts.
func every(texts []string, most int) [][]string {
	all := [][]string{nil}
	from := 0
	for range most {
		end := len(all)
		for _, l := range all[from:end] {
			for _, m := range texts {
				all = append(all, append(slices.Clone(l), m))
			}
		}
		from = end
	}
	return all
}

// 11.1, 11.4, 11.5: every short list, one text the beginning of another.
func TestEveryList(t *testing.T) {
	texts := []string{"", "a", "a\x00", "b"}
	for _, l := range every(texts, 5) {
		sameOfOne(t, l, append(texts, "\x00", "a\x00\x00", "c"))
	}
}

// 11.2, 11.3, 11.5: every two short lists.
func TestEveryTwo(t *testing.T) {
	all := every([]string{"", "a", "a\x00", "\xff"}, 3)
	for _, a := range all {
		for _, b := range all {
			sameOfTwo(t, a, b)
			sameOfMany(t, a, b)
		}
	}
}

// 11.3, 11.4: every one, three and four very short lists.
func TestEveryFew(t *testing.T) {
	all := every([]string{"", "a", "b"}, 2)
	for _, a := range all {
		sameOfMany(t, a)
		for _, b := range all {
			for _, c := range all {
				sameOfMany(t, a, b, c)
			}
		}
	}
	few := [][]string{nil, {"a"}, {"b"}, {"b", "a"}, {"a", "a"}}
	for i := range 5 * 5 * 5 * 5 {
		sameOfMany(t, few[i%5], few[i/5%5], few[i/25%5], few[i/125])
	}
}

// anyText is a text of up to three bytes, of few kinds or of all, so that texts meet again.
func anyText(r *rand.Rand) string {
	b := make([]byte, r.Intn(4))
	for i := range b {
		b[i] = "\x00ab\xff"[r.Intn(4)]
		if r.Intn(8) == 0 {
			b[i] = byte(r.Intn(256))
		}
	}
	return string(b)
}

// anyList is a list of up to so many texts, in any order or rising.
func anyList(r *rand.Rand, most int) []string {
	var l []string
	for range r.Intn(most + 1) {
		l = append(l, anyText(r))
	}
	if r.Intn(3) == 0 {
		slices.Sort(l)
	}
	return l
}

// 11.1 to 11.5: longer lists, and more of them, with bytes of every kind.
func TestLongLists(t *testing.T) {
	for seed := range int64(1500) {
		r := rand.New(rand.NewSource(seed))
		most := 1 + r.Intn(60)
		ls := make([][]string, 1+r.Intn(7))
		common := anyList(r, 8)
		for i := range ls {
			ls[i] = append(anyList(r, most), common...)
			r.Shuffle(len(ls[i]), func(a, b int) { ls[i][a], ls[i][b] = ls[i][b], ls[i][a] })
			if r.Intn(4) == 0 {
				ls[i] = Of(ls[i])
			}
		}
		if r.Intn(10) == 0 {
			ls[r.Intn(len(ls))] = nil
		}
		sameOfOne(t, ls[0], []string{anyText(r), anyText(r), append(ls[0], "")[0]})
		sameOfTwo(t, ls[0], ls[len(ls)-1])
		sameOfMany(t, ls...)
		anyOrder(t, r, ls)
	}
}

// anyOrder fails unless Union, Inter and Count are the same in another order of the lists, and Diff in another order of those behind the first.
func anyOrder(t *testing.T, r *rand.Rand, ls [][]string) {
	t.Helper()
	was := fmt.Sprintf("%q %q %d %q", Union(ls...), Inter(ls...), Count(2, ls...), Diff(ls...))
	mixed := slices.Clone(ls)
	r.Shuffle(len(mixed), func(a, b int) { mixed[a], mixed[b] = mixed[b], mixed[a] })
	behind := slices.Clone(ls)
	slices.Reverse(behind[1:])
	if is := fmt.Sprintf("%q %q %d %q", Union(mixed...), Inter(mixed...), Count(2, mixed...), Diff(behind...)); is != was {
		t.Fatalf("%q: %s, in another order %s", ls, was, is)
	}
}
