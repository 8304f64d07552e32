package value

import (
	"math"
	"strings"
	"testing"

	"covenant/api"
)

const top = api.MaxScore

func aText(s string) api.Value { return api.Value{Kind: api.KindText, Text: s} }

func aList(l ...string) api.Value { return api.Value{Kind: api.KindList, List: l} }

func aSet(l ...string) api.Value { return api.Value{Kind: api.KindSet, List: l} }

func aHash(l ...api.Field) api.Value { return api.Value{Kind: api.KindHash, Fields: l} }

func aRank(l ...api.Scored) api.Value { return api.Value{Kind: api.KindRank, Ranked: l} }

// hashOf is a hash of names and values by turns.
func hashOf(row ...string) api.Value {
	var l []api.Field
	for i := 0; i < len(row); i += 2 {
		l = append(l, api.Field{Name: row[i], Value: row[i+1]})
	}
	return aHash(l...)
}

// long is a text of so many bytes.
func long(n int) string { return strings.Repeat("x", n) }

// good is values of every kind that may be.
func good() []api.Value {
	return []api.Value{
		aText(""), aText("hi"), aText("\x00\xff\r\n"), aText(long(300)),
		aList(""), aList("b", "a", "b"), aList("", "", ""), aList("\xff", "\x00"),
		hashOf("", ""), hashOf("a", "1"), hashOf("a", "2", "a\x00", "1", "b", "1"), hashOf("", "x", "\x80", "", "\xff", "\xff\xff"),
		aSet(""), aSet("a", "b"), aSet("", "a", "a\x00", "aa", "b", "\xff"),
		aRank(api.Scored{}), aRank(api.Scored{Name: "a", Score: -1}),
		aRank(api.Scored{Name: "z", Score: -top}, api.Scored{Name: "a", Score: 0}, api.Scored{Name: "b", Score: 0}, api.Scored{Name: "", Score: top}),
		aRank(api.Scored{Name: "b", Score: -1}, api.Scored{Name: "a", Score: 256}, api.Scored{Name: "a\x00", Score: 256}),
	}
}

// takes fails unless a value may be, for every call that asks it.
func takes(t *testing.T, what string, v api.Value) {
	t.Helper()
	s, e := Encode(v)
	if Check(v) != api.OK || e != api.OK || s == "" || Weight(v) != len(s) {
		t.Errorf("%s: Check %d, Encode %d bytes and %d, Weight %d", what, Check(v), len(s), e, Weight(v))
	}
}

// refuses fails unless a value is refused by this error, by every call that asks it.
func refuses(t *testing.T, what string, v api.Value, want api.Errno) {
	t.Helper()
	s, e := Encode(v)
	if Check(v) != want || e != want || s != "" || Weight(v) != 0 {
		t.Errorf("%s: Check %d, Encode %.60q and %d, Weight %d, not %d", what, Check(v), s, e, Weight(v), want)
	}
}

// 13.1: a word for each kind, and none for any other number.
func TestName(t *testing.T) {
	for kind, want := range map[int]string{
		api.KindNone: "none", api.KindText: "string", api.KindList: "list", api.KindHash: "hash", api.KindSet: "set", api.KindRank: "zset",
		-1: "", 6: "", 7: "", 256: "", 257: "", -5: "", 1 << 32: "", 1<<32 + 1: "", math.MinInt: "", math.MaxInt: "",
	} {
		if got := Name(kind); got != want {
			t.Errorf("Name(%d): %q, not %q", kind, got, want)
		}
	}
}

// 13.1, 13.3: values of every kind that may be.
func TestMayBe(t *testing.T) {
	for _, v := range good() {
		takes(t, Name(v.Kind), v)
	}
}

// 13.1, 13.3: a Kind that is none is told ahead of all else that is wrong, and whatever is right.
func TestNoKind(t *testing.T) {
	for _, kind := range []int{0, -1, 6, 9, 257, -255, 1<<32 + 1, math.MinInt, math.MaxInt} {
		refuses(t, "nothing else", api.Value{Kind: kind}, api.ErrKind)
		for _, v := range append(good(), aSet("b", "a"), aText(long(api.MaxText+1)), aRank(api.Scored{Score: top + 1})) {
			v.Kind = kind
			refuses(t, "filled", v, api.ErrKind)
		}
	}
}

// 13.1, 13.3: a field that the kind does not use must be zero; a list of no length is so, nil or not.
func TestStrayFields(t *testing.T) {
	for _, first := range good() {
		for what, fill := range map[string]func(v *api.Value){
			"Text":   func(v *api.Value) { v.Text = "x" },
			"List":   func(v *api.Value) { v.List = []string{"x"} },
			"List 0": func(v *api.Value) { v.List = []string{""} },
			"Fields": func(v *api.Value) { v.Fields = []api.Field{{}} },
			"Ranked": func(v *api.Value) { v.Ranked = []api.Scored{{}} },
		} {
			v := first
			fill(&v)
			own := map[int]string{api.KindText: "Text", api.KindList: "List", api.KindHash: "Fields", api.KindSet: "List", api.KindRank: "Ranked"}[v.Kind]
			if strings.HasPrefix(what, own) {
				takes(t, Name(v.Kind)+" with "+what, v)
			} else {
				refuses(t, Name(v.Kind)+" with "+what, v, api.ErrValue)
			}
		}
		v := first
		if v.List == nil {
			v.List = []string{}
		}
		if v.Fields == nil {
			v.Fields = make([]api.Field, 0, 3)
		}
		if v.Ranked == nil {
			v.Ranked = []api.Scored{{Name: "behind"}}[:0]
		}
		takes(t, Name(v.Kind)+" with lists of no length", v)
	}
}

// inPlaces is values with a text laid at every place where one may stand.
func inPlaces(s string) map[string]api.Value {
	return map[string]api.Value{
		"text":                aText(s),
		"list of one":         aList(s),
		"list, first":         aList(s, "a", "b"),
		"list, last":          aList("a", "b", s),
		"hash, first name":    hashOf(s, "1", "z", "2"),
		"hash, last name":     hashOf("a", "1", s, "2"),
		"hash, first value":   hashOf("a", s, "b", "2"),
		"hash, last value":    hashOf("a", "1", "b", s),
		"set of one":          aSet(s),
		"set, first":          aSet(s, "z"),
		"set, last":           aSet("a", s),
		"rank of one":         aRank(api.Scored{Name: s}),
		"rank, first":         aRank(api.Scored{Name: s}, api.Scored{Name: "z"}),
		"rank, last by score": aRank(api.Scored{Name: "z"}, api.Scored{Name: s, Score: 1}),
	}
}

// 13.1, 13.3: a text has MaxText bytes at most, wherever it stands.
func TestLongTexts(t *testing.T) {
	for what, v := range inPlaces(long(api.MaxText)) {
		takes(t, what, v)
	}
	for what, v := range inPlaces(long(api.MaxText + 1)) {
		refuses(t, what, v, api.ErrValue)
	}
	takes(t, "several long ones", aList(long(api.MaxText), long(api.MaxText), long(api.MaxText)))
}

// 13.1, 13.3: a list, hash, set or rank has an element at least, a string none of its own.
func TestNoElement(t *testing.T) {
	for _, kind := range []int{api.KindList, api.KindHash, api.KindSet, api.KindRank} {
		refuses(t, Name(kind), api.Value{Kind: kind}, api.ErrValue)
		refuses(t, Name(kind), api.Value{Kind: kind, List: []string{}, Fields: []api.Field{}, Ranked: []api.Scored{}}, api.ErrValue)
	}
	takes(t, "a string", aText(""))
}

// 13.1, 13.3: names and members that do not rise, at the beginning and at the end.
func TestNotRising(t *testing.T) {
	for _, l := range [][]string{
		{"b", "a"}, {"a", "a"}, {"", ""}, {"a", ""}, {"a\x00", "a"}, {"\xff", "\x00"}, {"\x80", "\x7f"},
		{"b", "a", "c"}, {"a", "c", "b"}, {"a", "b", "b"}, {"a", "a", "b"}, {"a", "b", "a"}, {"a", "b", "c", ""}, {"Z", "a", "B"},
	} {
		var row []string
		for i, name := range l {
			row = append(row, name, string(rune('a'+i)))
		}
		refuses(t, "set", aSet(l...), api.ErrValue)
		refuses(t, "hash", hashOf(row...), api.ErrValue)
		takes(t, "list", aList(l...))
	}
	takes(t, "hash with values that fall", hashOf("a", "z", "b", "y", "c", "y"))
}

// 13.1, 13.3: scores at both ends, and beyond them, wherever they stand.
func TestScores(t *testing.T) {
	for _, score := range []int{-top, -top + 1, -1, 0, 1, top - 1, top} {
		takes(t, "one", aRank(api.Scored{Name: "a", Score: score}))
	}
	for _, score := range []int{-top - 1, top + 1, math.MinInt, math.MaxInt, 2 * top, -2 * top} {
		refuses(t, "one", aRank(api.Scored{Name: "a", Score: score}), api.ErrValue)
	}
	takes(t, "both ends", aRank(api.Scored{Name: "a", Score: -top}, api.Scored{Name: "b", Score: top}))
	refuses(t, "the first below", aRank(api.Scored{Name: "a", Score: -top - 1}, api.Scored{Name: "b", Score: 0}), api.ErrValue)
	refuses(t, "the last above", aRank(api.Scored{Name: "a", Score: 0}, api.Scored{Name: "b", Score: top + 1}), api.ErrValue)
	refuses(t, "the least and the greatest number", aRank(api.Scored{Name: "a", Score: math.MinInt}, api.Scored{Name: "b", Score: math.MaxInt}), api.ErrValue)
}

// 13.1, 13.3: a rank stands in order, by scores, of one score by names, and no name stands twice.
func TestRankOrder(t *testing.T) {
	for what, l := range map[string][]api.Scored{
		"by scores":                  {{Name: "a", Score: 2}, {Name: "b", Score: 1}},
		"by scores at the end":       {{Name: "a", Score: 1}, {Name: "b", Score: 3}, {Name: "c", Score: 2}},
		"by scores below 0":          {{Name: "a", Score: -1}, {Name: "b", Score: -2}},
		"by scores about 0":          {{Name: "a", Score: 0}, {Name: "b", Score: -1}},
		"from one end to the other":  {{Name: "a", Score: top}, {Name: "b", Score: -top}},
		"by names":                   {{Name: "b", Score: 1}, {Name: "a", Score: 1}},
		"by names at the end":        {{Name: "a", Score: 0}, {Name: "c", Score: 1}, {Name: "b", Score: 1}},
		"by a name and its longer":   {{Name: "a\x00", Score: 1}, {Name: "a", Score: 1}},
		"the same twice":             {{Name: "a", Score: 1}, {Name: "a", Score: 1}},
		"a name twice":               {{Name: "a", Score: 1}, {Name: "a", Score: 2}},
		"a name twice, far apart":    {{Name: "a", Score: 1}, {Name: "b", Score: 1}, {Name: "c", Score: 2}, {Name: "a", Score: 3}},
		"the empty name twice":       {{Name: "", Score: 1}, {Name: "b", Score: 1}, {Name: "", Score: 2}},
		"a name twice within others": {{Name: "x", Score: 0}, {Name: "a", Score: 1}, {Name: "y", Score: 1}, {Name: "a", Score: 2}, {Name: "z", Score: 3}},
	} {
		refuses(t, what, aRank(l...), api.ErrValue)
	}
	takes(t, "names that fall by rising scores", aRank(api.Scored{Name: "c", Score: 1}, api.Scored{Name: "b", Score: 2}, api.Scored{Name: "a", Score: 3}))
}

// 13.2: a string is never empty, the others by their elements, other Kinds always.
func TestEmpty(t *testing.T) {
	all := api.Value{Text: "x", List: []string{"x"}, Fields: []api.Field{{}}, Ranked: []api.Scored{{}}}
	for kind, bare := range map[int]bool{
		api.KindText: false, api.KindList: true, api.KindHash: true, api.KindSet: true, api.KindRank: true,
	} {
		filled := all
		filled.Kind = kind
		if Empty(api.Value{Kind: kind}) != bare || Empty(filled) {
			t.Errorf("%s: %t, filled %t", Name(kind), Empty(api.Value{Kind: kind}), Empty(filled))
		}
		if Empty(api.Value{Kind: kind, List: []string{}, Fields: []api.Field{}, Ranked: []api.Scored{}}) != bare {
			t.Errorf("%s with lists of no length: %t", Name(kind), !bare)
		}
	}
	for _, kind := range []int{0, -1, 6, 257, math.MinInt, math.MaxInt} {
		filled := all
		filled.Kind = kind
		if !Empty(filled) || !Empty(api.Value{Kind: kind}) {
			t.Errorf("Kind %d: not empty", kind)
		}
	}
	for _, v := range good() {
		if Empty(v) {
			t.Errorf("%v: empty", v)
		}
	}
}

// 13.2: an element counts only in the field that the kind uses.
func TestEmptyElsewhere(t *testing.T) {
	for kind, clear := range map[int]func(v *api.Value){
		api.KindList: func(v *api.Value) { v.List = nil },
		api.KindSet:  func(v *api.Value) { v.List = nil },
		api.KindHash: func(v *api.Value) { v.Fields = nil },
		api.KindRank: func(v *api.Value) { v.Ranked = nil },
	} {
		v := api.Value{Kind: kind, Text: "x", List: []string{"x"}, Fields: []api.Field{{}}, Ranked: []api.Scored{{}}}
		clear(&v)
		if !Empty(v) {
			t.Errorf("%s without elements of its own: not empty", Name(kind))
		}
	}
}

// unlike is values no two of which are the same: they differ in one field, in length, in one element.
func unlike() []api.Value {
	return []api.Value{
		{}, {Kind: 1}, {Kind: 2}, {Kind: 6}, {Kind: -1},
		{Kind: 1, Text: "a"}, {Kind: 1, Text: "b"}, {Kind: 1, Text: "aa"}, {Text: "a"},
		{Kind: 2, List: []string{"a"}}, {Kind: 4, List: []string{"a"}}, {List: []string{"a"}}, {Kind: 2, List: []string{""}},
		{Kind: 2, List: []string{"a", "b"}}, {Kind: 2, List: []string{"b", "a"}}, {Kind: 2, List: []string{"a", "c"}}, {Kind: 2, List: []string{"a", "b", "c"}}, {Kind: 2, List: []string{"ab"}},
		{Kind: 3, Fields: []api.Field{{Name: "a", Value: "1"}}}, {Kind: 3, Fields: []api.Field{{Name: "a", Value: "2"}}}, {Kind: 3, Fields: []api.Field{{Name: "b", Value: "1"}}},
		{Kind: 3, Fields: []api.Field{{}}}, {Kind: 3, Fields: []api.Field{{}, {}}}, {Kind: 3}, {Fields: []api.Field{{}}},
		{Kind: 5, Ranked: []api.Scored{{Name: "a", Score: 1}}}, {Kind: 5, Ranked: []api.Scored{{Name: "a", Score: 2}}}, {Kind: 5, Ranked: []api.Scored{{Name: "b", Score: 1}}},
		{Kind: 5, Ranked: []api.Scored{{Name: "a", Score: 1}, {Name: "b", Score: 1}}}, {Kind: 5, Ranked: []api.Scored{{Name: "a", Score: 1}, {Name: "b", Score: 2}}}, {Kind: 5},
		{Kind: 1, Text: "a", List: []string{"x"}}, {Kind: 1, Text: "a", Fields: []api.Field{{}}}, {Kind: 1, Text: "a", Ranked: []api.Scored{{}}},
		{Kind: 1, Text: "a", List: []string{"x"}, Fields: []api.Field{{}}, Ranked: []api.Scored{{}}},
	}
}

// 13.2: Same asks for the Kind and for all fields; Copy gives the same.
func TestSame(t *testing.T) {
	all := unlike()
	for i, a := range all {
		for j, b := range all {
			if Same(a, b) != (i == j) || Same(Copy(a), b) != (i == j) || Same(a, Copy(b)) != (i == j) {
				t.Errorf("Same(%v, %v): %t", a, b, Same(a, b))
			}
		}
	}
}

// 13.2, R3: a list that is nil and one of no length are the same.
func TestSameEmpty(t *testing.T) {
	for kind := -1; kind <= 6; kind++ {
		bare := api.Value{Kind: kind, Text: "x"}
		made := api.Value{Kind: kind, Text: "x", List: []string{}, Fields: []api.Field{}, Ranked: make([]api.Scored, 0, 4)}
		if !Same(bare, made) || !Same(made, bare) || !Same(Copy(made), bare) || !Same(Copy(bare), made) {
			t.Errorf("Kind %d: lists of no length differ", kind)
		}
	}
}

// The chapter's examples.
func TestExamples(t *testing.T) {
	for _, c := range []struct {
		v    api.Value
		want string
	}{
		{aText("hi"), "\x01\x02\x00\x00\x00hi"},
		{aSet("a", "b"), "\x04\x02\x00\x00\x00\x01\x00\x00\x00a\x01\x00\x00\x00b"},
	} {
		if s, e := Encode(c.v); s != c.want || e != api.OK {
			t.Errorf("Encode(%v): %q %d", c.v, s, e)
		}
	}
	refuses(t, "b a", aSet("b", "a"), api.ErrValue)
	refuses(t, "an empty list", aList(), api.ErrValue)
	refuses(t, "Kind 9", api.Value{Kind: 9}, api.ErrKind)
	refuses(t, "Kind 0", api.Value{}, api.ErrKind)
	spoilt(t, "three bytes of which two are there", "\x01\x03\x00\x00\x00hi")
	if n := Weight(aRank(api.Scored{Name: "a", Score: -1})); n != 18 {
		t.Errorf("Weight: %d", n)
	}
}
