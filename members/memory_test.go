package members

import (
	"slices"
	"strconv"
	"testing"
)

// asks is every call that gives a list, of lists that are handed in: two of them, or the first alone.
func asks() map[string]func(a, b []string) []string {
	return map[string]func(a, b []string) []string{
		"Of":        func(a, b []string) []string { return Of(a) },
		"Add":       func(a, b []string) []string { l, _ := Add(a, b...); return l },
		"Add none":  func(a, b []string) []string { l, _ := Add(a); return l },
		"Add to":    func(a, b []string) []string { l, _ := Add(nil, b...); return l },
		"Remove":    func(a, b []string) []string { l, _ := Remove(a, b...); return l },
		"Remove 0":  func(a, b []string) []string { l, _ := Remove(a); return l },
		"Union":     func(a, b []string) []string { return Union(a, b) },
		"Union 1":   func(a, b []string) []string { return Union(a) },
		"Union 3":   func(a, b []string) []string { return Union(a, b, a) },
		"Inter":     func(a, b []string) []string { return Inter(a, b) },
		"Inter 1":   func(a, b []string) []string { return Inter(a) },
		"Inter 3":   func(a, b []string) []string { return Inter(a, b, a) },
		"Diff":      func(a, b []string) []string { return Diff(a, b) },
		"Diff 1":    func(a, b []string) []string { return Diff(a) },
		"Diff none": func(a, b []string) []string { return Diff(a, nil) },
		"After":     func(a, b []string) []string { return After(a, "b", 1) },
		"After all": func(a, b []string) []string { return After(a, "", 9) },
		"After 0":   func(a, b []string) []string { return After(a, "a", 0) },
		"asked":     func(a, b []string) []string { Valid(a); Has(a, "c"); Count(1, a, b); return nil },
	}
}

// spoil writes over a list and over the spare room behind it.
func spoil(list []string) {
	list = list[:cap(list)]
	for i := range list {
		list[i] = "spoilt"
	}
}

// pairs is lists that are handed in: in no order, rising, the same, empty ones.
func pairs() [][2][]string {
	return [][2][]string{
		{words("c a b c"), words("d b b")},
		{words("a b c"), words("b c d")},
		{words("a b"), words("c d")},
		{words("a"), words("a")},
		{words("b a"), nil},
		{nil, words("b a")},
		{nil, nil},
	}
}

// R4: what is handed in is not changed, what lies behind its end neither, nor is it by what is written over an answer; and it is not kept.
func TestHandedIn(t *testing.T) {
	for what, ask := range asks() {
		for _, p := range pairs() {
			a := append(append([]string{"ahead"}, p[0]...), "behind", "b", "a")
			b := append(append([]string{"ahead"}, p[1]...), "behind", "d", "c")
			wasA, wasB := slices.Clone(a), slices.Clone(b)
			got := ask(a[1:1+len(p[0])], b[1:1+len(p[1])])
			want := slices.Clone(got)
			told(t, what+": the first list", a, wasA...)
			told(t, what+": the other list", b, wasB...)
			spoil(a)
			spoil(b)
			told(t, what+" behind a change of what was handed in", got, want...)
			copy(a, wasA)
			copy(b, wasB)
			spoil(got)
			told(t, what+" written over: the first list", a, wasA...)
			told(t, what+" written over: the other list", b, wasB...)
		}
	}
}

// R4: the list of lists, and of texts, that a variadic call is handed stays as it is too.
func TestHandedInList(t *testing.T) {
	a, b, c := words("b a"), words("c b"), words("z")
	ls := [][]string{a, b, c}
	Union(ls[:2]...)
	Inter(ls[:2]...)
	Diff(ls[:2]...)
	Count(1, ls[:2]...)
	for i, l := range [][]string{a, b, c} {
		if &ls[i][0] != &l[0] || len(ls[i]) != len(l) {
			t.Errorf("list %d is another one", i)
		}
	}
	told(t, "the first", a, "b", "a")
	told(t, "the second", b, "c", "b")
	told(t, "the one behind", c, "z")
}

// R4: what is handed out is new memory, spare room too: what is written there is not seen in another answer, of the same call or of another.
func TestHandedOut(t *testing.T) {
	for what, ask := range asks() {
		for _, p := range pairs() {
			first := ask(p[0], p[1])
			want := slices.Clone(first)
			set := Of(p[0])
			wantSet := slices.Clone(set)
			spoil(ask(p[0], p[1]))
			told(t, what+" ahead", first, want...)
			told(t, what+": the set ahead", set, wantSet...)
			told(t, what+" again", ask(p[0], p[1]), want...)
			spoil(ask(set, p[1]))
			told(t, what+" of a set written over", set, wantSet...)
		}
	}
}

// R4: an answer that is handed in again is neither changed nor part of what comes of it.
func TestAgain(t *testing.T) {
	set := Of(words("c a b a"))
	more, _ := Add(set, "d")
	less, _ := Remove(set, "a")
	union, inter, diff, after := Union(set), Inter(set, set), Diff(set), After(set, "a", 9)
	spoil(set)
	told(t, "Add", more, "a", "b", "c", "d")
	told(t, "Remove", less, "b", "c")
	told(t, "Union", union, "a", "b", "c")
	told(t, "Inter", inter, "a", "b", "c")
	told(t, "Diff", diff, "a", "b", "c")
	told(t, "After", after, "b", "c")
}

// Many lists, and long ones, are not gone over again for each of the others.
func TestMuch(t *testing.T) {
	const many = 1 << 17
	long := make([]string, many)
	each := make([][]string, many)
	for i := range many {
		long[i] = strconv.Itoa(many + many - 1 - i)
		each[i] = []string{strconv.Itoa(many + i)}
	}
	union := Union(each...)
	if len(union) != many || !Valid(union) || !slices.Equal(union, Of(long)) {
		t.Errorf("Union: %d", len(union))
	}
	if set, n := Add(long, union...); len(set) != many || n != 0 {
		t.Errorf("Add: %d %d", len(set), n)
	}
	if set, n := Remove(long, union[1:]...); n != many-1 || len(set) != 1 {
		t.Errorf("Remove: %d %d", len(set), n)
	}
	each[0] = long
	told(t, "Diff", Diff(each...), strconv.Itoa(many))
	told(t, "Inter", Inter(each...))
	if n := Count(0, long, union, long, union); n != many {
		t.Errorf("Count: %d", n)
	}
}
