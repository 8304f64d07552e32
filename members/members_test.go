package members

import (
	"math"
	"slices"
	"strconv"
	"strings"
	"testing"
)

// told fails unless a call told just these.
func told(t *testing.T, what string, got []string, want ...string) {
	t.Helper()
	if !slices.Equal(got, want) {
		t.Errorf("%s: %q, not %q", what, got, want)
	}
}

// words is a list of texts written with spaces between them.
func words(line string) []string {
	return strings.Fields(line)
}

// lists is lists written with slashes between them; an empty line is one empty list.
func lists(line string) [][]string {
	var all [][]string
	for _, piece := range strings.Split(line, "/") {
		all = append(all, words(piece))
	}
	return all
}

// orders is a list in each of its orders.
func orders[T any](l []T) [][]T {
	if len(l) == 0 {
		return [][]T{nil}
	}
	var all [][]T
	for i := range l {
		rest := append(slices.Clone(l[:i]), l[i+1:]...)
		for _, order := range orders(rest) {
			all = append(all, append([]T{l[i]}, order...))
		}
	}
	return all
}

// 11.1: Of gives each element once, rising, in whatever order they come and however often.
func TestOf(t *testing.T) {
	for _, c := range []struct {
		list, set []string
	}{
		{nil, nil},
		{[]string{}, nil},
		{make([]string, 0, 3), nil},
		{[]string{""}, []string{""}},
		{[]string{"", ""}, []string{""}},
		{[]string{"a"}, []string{"a"}},
		{[]string{"a", "a"}, []string{"a"}},
		{[]string{"a", "a", "a", "a"}, []string{"a"}},
		{[]string{"a", "b"}, []string{"a", "b"}},
		{[]string{"b", "b", "a", "a"}, []string{"a", "b"}},
		{[]string{"a", "b", "a", "b", "a"}, []string{"a", "b"}},
		{[]string{"a", "", "a", ""}, []string{"", "a"}},
		{[]string{"ab", "a", "abc", "aa", "a\x00", "b"}, []string{"a", "a\x00", "aa", "ab", "abc", "b"}},
		{[]string{"a", "A", "b", "B"}, []string{"A", "B", "a", "b"}},
		{[]string{"10", "9", "1", "-1", "01"}, []string{"-1", "01", "1", "10", "9"}},
		{[]string{"\xff", "\x80", "\x7f", "\x00", " ", "\xff\x00", "\xc3\xa4", "z"}, []string{"\x00", " ", "z", "\x7f", "\x80", "\xc3\xa4", "\xff", "\xff\x00"}},
	} {
		told(t, "Of", Of(c.list), c.set...)
	}
	set := []string{"", "\x00", "a", "a\x00", "aa", "\xff"}
	for _, list := range orders(set) {
		told(t, "Of in another order", Of(list), set...)
		told(t, "Of each twice", Of(append(list, list...)), set...)
	}
}

// 11.1: Of, Valid and Has by each byte, ahead of others and behind others.
func TestBytes(t *testing.T) {
	var set, falling []string
	set = append(set, "")
	for c := range 256 {
		set = append(set, string([]byte{byte(c)}), string([]byte{byte(c), 'm'}))
	}
	for i := range set {
		falling = append(falling, set[len(set)-1-i])
	}
	told(t, "Of all bytes", Of(falling), set...)
	if !Valid(set) || Valid(falling) {
		t.Error("Valid of all bytes")
	}
	for _, m := range set {
		if !Has(set, m) || !Has(falling, m) || Has(set, m+"\x00\x00") {
			t.Errorf("Has(%q)", m)
		}
	}
	for _, a := range set {
		for _, b := range set {
			if Valid([]string{a, b}) != (strings.Compare(a, b) < 0) {
				t.Fatalf("Valid(%q, %q)", a, b)
			}
		}
	}
}

// 11.1: Valid of lists that rise, that stay and that fall, wherever they do.
func TestValid(t *testing.T) {
	for _, l := range [][]string{
		nil, {}, {""}, {"a"}, {"\xff"},
		{"", "a"}, {"a", "b"}, {"a", "aa"}, {"a", "a\x00"}, {"A", "a"}, {"10", "9"}, {"\x7f", "\x80"},
		{"a", "b", "c"}, {"", "\x00", "\x00\x00", "a", "ab", "b", "\xff", "\xff\xff"},
	} {
		if !Valid(l) {
			t.Errorf("Valid(%q): false", l)
		}
	}
	for _, l := range [][]string{
		{"", ""}, {"a", "a"}, {"b", "a"}, {"a", ""}, {"aa", "a"}, {"a\x00", "a"}, {"a", "A"}, {"9", "10"}, {"\x80", "\x7f"}, {"\xff\xff", "\xff"},
		{"a", "a", "b"}, {"a", "b", "b"}, {"a", "b", "a"}, {"b", "a", "c"}, {"a", "c", "b"}, {"c", "b", "a"}, {"a", "a", "a"},
		{"a", "b", "c", "c", "d", "e"}, {"a", "b", "d", "c", "e", "f"}, {"a", "b", "c", "d", "e", "a"}, {"f", "a", "b", "c", "d", "e"},
	} {
		if Valid(l) {
			t.Errorf("Valid(%q): true", l)
		}
	}
	rising := words("a b c d e")
	for _, l := range orders(rising) {
		if Valid(l) != slices.Equal(l, rising) {
			t.Errorf("Valid(%q)", l)
		}
	}
}

// 11.1: Has of what stands in a list, in any order, and of what does not: ahead of the first, between two, behind the last.
func TestHas(t *testing.T) {
	for _, l := range orders([]string{"b", "d", "dd", "f"}) {
		for _, list := range [][]string{l, append(slices.Clone(l), l...)} {
			for _, m := range []string{"b", "d", "dd", "f"} {
				if !Has(list, m) {
					t.Errorf("Has(%q, %q): false", list, m)
				}
			}
			for _, m := range []string{"", "\x00", "a", "B", "b\x00", "bb", "c", "d\x00", "da", "ddd", "e", "ff", "g", "\xff"} {
				if Has(list, m) {
					t.Errorf("Has(%q, %q): true", list, m)
				}
			}
		}
	}
	for _, m := range []string{"", "a"} {
		if Has(nil, m) || Has([]string{}, m) || !Has([]string{m}, m) || Has([]string{m + "x"}, m) {
			t.Errorf("Has of none or one: %q", m)
		}
	}
	if !Has([]string{"a", "", "b"}, "") || Has([]string{"a", "b"}, "") {
		t.Error("Has of the empty text")
	}
}

// 11.2: Add of none, of what is there, of what is not, of both, of the same one twice, to lists in any order.
func TestAdd(t *testing.T) {
	for _, c := range []struct {
		list, more, set string
		n               int
	}{
		{"", "", "", 0}, {"a", "", "a", 0}, {"b a b", "", "a b", 0},
		{"", "a", "a", 1}, {"", "b a", "a b", 2}, {"", "a a a", "a", 1}, {"", "b a b a", "a b", 2},
		{"a", "a", "a", 0}, {"a", "a a", "a", 0}, {"a b", "b a", "a b", 0}, {"b a a b", "a b b", "a b", 0},
		{"b", "a", "a b", 1}, {"b", "c", "b c", 1}, {"a c", "b", "a b c", 1}, {"a", "b b", "a b", 1},
		{"c a", "b a d c b", "a b c d", 2}, {"b a", "c a c", "a b c", 1},
		{"a a a", "b", "a b", 1}, {"a a a", "a b b", "a b", 1}, {"d c b a", "e", "a b c d e", 1},
		{"a", "aa A a", "A a aa", 2}, {"b d f", "a c e g", "a b c d e f g", 4}, {"b d", "y x", "b d x y", 2}, {"x y", "a b", "a b x y", 2},
	} {
		for _, list := range orders(words(c.list)) {
			for _, more := range orders(words(c.more)) {
				set, n := Add(list, more...)
				told(t, "Add", set, words(c.set)...)
				if n != c.n {
					t.Errorf("Add(%q, %q): %d, not %d", list, more, n, c.n)
				}
			}
		}
	}
	set, n := Add([]string{"a"}, "", "\xff", "a\x00", "", "\x00")
	told(t, "Add", set, "", "\x00", "a", "a\x00", "\xff")
	if n != 4 {
		t.Errorf("Add: %d", n)
	}
	if set, n := Add(nil); len(set) != 0 || n != 0 {
		t.Errorf("Add of none to none: %q %d", set, n)
	}
}

// 11.2: Remove of none, of what is there, of what is not, of both, of the same one twice, from lists in any order.
func TestRemove(t *testing.T) {
	for _, c := range []struct {
		list, gone, set string
		n               int
	}{
		{"", "", "", 0}, {"a", "", "a", 0}, {"b a b", "", "a b", 0},
		{"", "a", "", 0}, {"", "a b a", "", 0},
		{"a", "a", "", 1}, {"a", "a a", "", 1}, {"a a a", "a", "", 1}, {"a b", "b a", "", 2}, {"b a b a", "a b b", "", 2},
		{"b", "a", "b", 0}, {"b", "c", "b", 0}, {"a c", "b", "a c", 0}, {"a c a", "b b d", "a c", 0},
		{"a b c", "a", "b c", 1}, {"a b c", "b", "a c", 1}, {"a b c", "c", "a b", 1}, {"a b c", "a c", "b", 2},
		{"a b c", "c d", "a b", 1}, {"c a b a", "a d a", "b c", 1}, {"a b c d", "b x d b", "a c", 2},
		{"a aa A", "a", "A aa", 1}, {"a aa A", "aa", "A a", 1}, {"b d", "a c e", "b d", 0}, {"b d", "a b c d e", "", 2},
	} {
		for _, list := range orders(words(c.list)) {
			for _, gone := range orders(words(c.gone)) {
				set, n := Remove(list, gone...)
				told(t, "Remove", set, words(c.set)...)
				if n != c.n {
					t.Errorf("Remove(%q, %q): %d, not %d", list, gone, n, c.n)
				}
			}
		}
	}
	set, n := Remove([]string{"a", "", "\xff", "a\x00", "", "\x00"}, "", "a", "a", "b")
	told(t, "Remove", set, "\x00", "a\x00", "\xff")
	if n != 2 {
		t.Errorf("Remove: %d", n)
	}
	if set, n := Remove(nil); len(set) != 0 || n != 0 {
		t.Errorf("Remove of none from none: %q %d", set, n)
	}
}

// 11.3, 11.4, 11.5: Union, Inter and Count of one, of two and of more lists, of empty ones among them, in every order of the lists.
func TestUnionInter(t *testing.T) {
	for _, c := range []struct {
		lists, union, inter string
	}{
		{"", "", ""}, {"a", "a", "a"}, {"b a b", "a b", "a b"},
		{"/", "", ""}, {"a/", "a", ""}, {"b a a/", "a b", ""}, {"//", "", ""}, {"a//b", "a b", ""},
		{"a/a", "a", "a"}, {"a/b", "a b", ""}, {"b a/a b", "a b", "a b"}, {"a b/b c", "a b c", "b"}, {"c b/b a", "a b c", "b"},
		{"a a/a", "a", "a"}, {"a a/b", "a b", ""}, {"a c e/b d f", "a b c d e f", ""}, {"a b/x y", "a b x y", ""}, {"a b c d/b c", "a b c d", "b c"},
		{"a b/b c/b", "a b c", "b"}, {"a b/b c/c a", "a b c", ""}, {"a/b/c", "a b c", ""}, {"a/a/a", "a", "a"}, {"a/a/b", "a b", ""},
		{"a b c/b c d/c d e", "a b c d e", "c"}, {"c b a/b d c/e b c c", "a b c d e", "b c"}, {"a b/a b/", "a b", ""},
		{"a x/b x/c x/d x", "a b c d x", "x"}, {"a aa/aa A/aa", "A a aa", "aa"}, {"a b c/a b/a/a b c d", "a b c d", "a"}, {"a/b//c/a", "a b c", ""},
	} {
		for _, ls := range orders(lists(c.lists)) {
			what := " of " + strconv.Quote(c.lists)
			told(t, "Union"+what, Union(ls...), words(c.union)...)
			told(t, "Inter"+what, Inter(ls...), words(c.inter)...)
			all := len(words(c.inter))
			for _, most := range []int{math.MinInt, -2, -1, 0, 1, 2, 3, math.MaxInt} {
				want := all
				if most > 0 && most < all {
					want = most
				}
				if n := Count(most, ls...); n != want {
					t.Errorf("Count(%d, %q): %d, not %d", most, ls, n, want)
				}
			}
		}
	}
	odd := [][]string{{"\xff", "", "a", "\x00"}, {"", "a\x00", "\xff"}, {"a", "\xff", "", ""}}
	told(t, "Union", Union(odd...), "", "\x00", "a", "a\x00", "\xff")
	told(t, "Inter", Inter(odd...), "", "\xff")
}

// 11.3: Diff of one, of two and of more lists, of empty ones among them, in every order of those behind the first.
func TestDiff(t *testing.T) {
	for _, c := range []struct {
		lists, diff string
	}{
		{"", ""}, {"a", "a"}, {"b a b", "a b"},
		{"/", ""}, {"a/", "a"}, {"/a", ""}, {"b a b//", "a b"}, {"//a", ""}, {"/a/b", ""},
		{"a/a", ""}, {"a/b", "a"}, {"b a/a", "b"}, {"b a/b", "a"}, {"b a/a b", ""}, {"a a/a", ""}, {"a a/b b", "a"},
		{"a b c/b/d", "a c"}, {"a b c/a/b/c", ""}, {"a b c/c b/b a", ""}, {"c b a/x c/c y", "a b"}, {"c a b c/d/", "a b c"},
		{"a b c d e/b/d/b d", "a c e"}, {"a aa A/A/aaa", "a aa"}, {"b d/a c e/a e", "b d"}, {"e d c b a/c/e//a a", "b d"},
	} {
		ls := lists(c.lists)
		for _, others := range orders(ls[1:]) {
			for _, first := range orders(ls[0]) {
				told(t, "Diff of "+strconv.Quote(c.lists), Diff(append([][]string{first}, others...)...), words(c.diff)...)
			}
		}
	}
	told(t, "Diff", Diff([]string{"\xff", "", "a", "\x00", "a\x00"}, []string{"", "a\x00\x00"}, []string{"\xff\xff", "\x00"}), "a", "a\x00", "\xff")
}

// 11.3, 11.4: of no lists there is nothing, and nothing to count.
func TestNoLists(t *testing.T) {
	for _, none := range [][][]string{nil, {}} {
		told(t, "Union", Union(none...))
		told(t, "Inter", Inter(none...))
		told(t, "Diff", Diff(none...))
		for _, most := range []int{math.MinInt, -1, 0, 1, 2, math.MaxInt} {
			if n := Count(most, none...); n != 0 {
				t.Errorf("Count(%d): %d", most, n)
			}
		}
	}
	told(t, "Union", Union(nil, []string{}, nil))
	told(t, "Inter", Inter(nil, []string{}))
	told(t, "Diff", Diff(nil, []string{"a"}))
}

// 11.4: Count with most below 1, below, at and above how many there are.
func TestCount(t *testing.T) {
	ls := [][]string{words("e d c b a a"), words("b c d e f"), words("x e d c b b")}
	for most, want := range map[int]int{math.MinInt: 4, -4: 4, -1: 4, 0: 4, 1: 1, 2: 2, 3: 3, 4: 4, 5: 4, 100: 4, math.MaxInt: 4} {
		for _, order := range orders(ls) {
			if n := Count(most, order...); n != want {
				t.Errorf("Count(%d): %d, not %d", most, n, want)
			}
		}
	}
	if n := Count(9, words("b a b a c")); n != 3 {
		t.Errorf("Count of one list: %d", n)
	}
}

// 11.4: After a text that stands in the list, or that does not, with most of every size, in any order of the list.
func TestAfter(t *testing.T) {
	set := []string{"b", "bb", "d", "\xff"}
	for _, c := range []struct {
		m      string
		behind []string
	}{
		{"", set}, {"\x00", set}, {"B", set}, {"a", set}, {"azzz", set},
		{"b", set[1:]}, {"b\x00", set[1:]}, {"ba\xff", set[1:]},
		{"bb", set[2:]}, {"bb\x00", set[2:]}, {"bbb", set[2:]}, {"c", set[2:]}, {"cz", set[2:]},
		{"d", set[3:]}, {"d\x00", set[3:]}, {"z", set[3:]}, {"\xfe\xff", set[3:]},
		{"\xff", nil}, {"\xff\x00", nil}, {"\xff\xff", nil},
	} {
		for _, list := range orders(set) {
			for _, most := range []int{math.MinInt, -2, -1, 0, 1, 2, 3, 4, 5, math.MaxInt} {
				what := "After " + strconv.Quote(c.m) + " " + strconv.Itoa(most)
				want := c.behind[:min(max(most, 0), len(c.behind))]
				told(t, what, After(list, c.m, most), want...)
				told(t, what+" of each twice", After(append(slices.Clone(list), list...), c.m, most), want...)
				told(t, what+" of none", After(nil, c.m, most))
			}
		}
	}
	told(t, "After the empty text, which is there", After([]string{"a", ""}, "", 9), "a")
	told(t, "After the only one", After([]string{"a", "a"}, "a", 9))
	told(t, "After ahead of the empty text", After([]string{""}, "", 9))
}

// The chapter's examples.
func TestExamples(t *testing.T) {
	told(t, "Of", Of(words("b a b")), "a", "b")
	set, n := Add(words("b a"), "c", "a", "c")
	told(t, "Add", set, "a", "b", "c")
	left, gone := Remove(words("a b c"), "c", "d")
	told(t, "Remove", left, "a", "b")
	if n != 1 || gone != 1 {
		t.Errorf("Add %d, Remove %d", n, gone)
	}
	told(t, "Inter", Inter(lists("a b/b c/b")...), "b")
	told(t, "Diff", Diff(lists("a b c/b/d")...), "a", "c")
	told(t, "After", After(words("a c d"), "a", 1), "c")
	told(t, "After", After(words("a"), "", -1))
}
