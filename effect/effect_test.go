package effect

import (
	"fmt"
	"math"
	"strings"
	"testing"

	"covenant/api"
	"covenant/space"
	"covenant/value"
)

const top = api.MaxTick

func aText(s string) api.Value { return api.Value{Kind: api.KindText, Text: s} }

func aList(l ...string) api.Value { return api.Value{Kind: api.KindList, List: l} }

func aSet(l ...string) api.Value { return api.Value{Kind: api.KindSet, List: l} }

func aHash(l ...api.Field) api.Value { return api.Value{Kind: api.KindHash, Fields: l} }

func aRank(l ...api.Scored) api.Value { return api.Value{Kind: api.KindRank, Ranked: l} }

func aPut(key string, v api.Value, due int) api.Effect {
	return api.Effect{Kind: api.EffectPut, Key: key, Value: v, Due: due}
}

func aDrop(key string) api.Effect { return api.Effect{Kind: api.EffectDrop, Key: key} }

func aDue(key string, due int) api.Effect {
	return api.Effect{Kind: api.EffectDue, Key: key, Due: due}
}

func aClear() api.Effect { return api.Effect{Kind: api.EffectClear} }

// kinds is a value of each kind, with lists of their own at each call.
func kinds() []api.Value {
	return []api.Value{
		aText("x"), aList("b", "a", "b"), aHash(api.Field{Name: "a", Value: "2"}, api.Field{Name: "b", Value: "1"}),
		aSet("a", "b", "c"), aRank(api.Scored{Name: "b", Score: -1}, api.Scored{Name: "a", Score: 2}),
	}
}

// goodValues is values that may be, at the edges of it too.
func goodValues() []api.Value {
	return append(kinds(),
		aText(""), aText("\x00\xff\r\n"), aText(strings.Repeat("x", api.MaxText)), aList(""), aHash(api.Field{}), aSet(""), aRank(api.Scored{}),
		aRank(api.Scored{Name: "z", Score: -api.MaxScore}, api.Scored{Name: "a", Score: api.MaxScore}),
		api.Value{Kind: api.KindText, Text: "x", List: []string{}, Fields: []api.Field{}, Ranked: []api.Scored{}},
	)
}

// badValues is values that may not be.
func badValues() map[string]api.Value {
	return map[string]api.Value{
		"nothing":              {},
		"Kind -1":              {Kind: -1},
		"Kind 6":               {Kind: 6, Text: "x"},
		"Kind 257":             {Kind: 257, Text: "x"},
		"an empty list":        aList(),
		"a list of no length":  {Kind: api.KindList, List: []string{}},
		"an empty hash":        aHash(),
		"an empty set":         aSet(),
		"an empty rank":        aRank(),
		"a text of no kind":    {Text: "x"},
		"a string with a list": {Kind: api.KindText, Text: "x", List: []string{"x"}},
		"a list with a text":   {Kind: api.KindList, Text: "x", List: []string{"x"}},
		"a set that falls":     aSet("b", "a"),
		"a set with one twice": aSet("a", "a"),
		"a hash that falls":    aHash(api.Field{Name: "b"}, api.Field{Name: "a"}),
		"a rank that falls":    aRank(api.Scored{Name: "a", Score: 2}, api.Scored{Name: "b", Score: 1}),
		"a score above":        aRank(api.Scored{Name: "a", Score: api.MaxScore + 1}),
		"a string too long":    aText(strings.Repeat("x", api.MaxText+1)),
	}
}

// notZero is values that are not zero: by their Kind, and by each of their parts alone.
func notZero() map[string]api.Value {
	return map[string]api.Value{
		"a Kind":       {Kind: api.KindText},
		"another Kind": {Kind: api.KindRank},
		"Kind -1":      {Kind: -1},
		"Kind 6":       {Kind: 6},
		"a Text":       {Text: "x"},
		"a List":       {List: []string{""}},
		"Fields":       {Fields: []api.Field{{}}},
		"Ranked":       {Ranked: []api.Scored{{}}},
		"a string":     aText("x"),
		"a list":       aList("x"),
	}
}

// noDeadlines is numbers that are no deadlines.
func noDeadlines() []int {
	return []int{-1, -top, -top - 1, math.MinInt, math.MinInt + 1, top + 1, 2 * top, math.MaxInt}
}

// keysToTry is keys of every sort.
func keysToTry() []string {
	return []string{"", "a", "\x00", "\xff\r\n", "\x04", strings.Repeat("k", 255), strings.Repeat("k", 258), strings.Repeat("k", 1<<16+1)}
}

// good is effects that may be, of each kind and at the edges of it.
func good() []api.Effect {
	l := []api.Effect{aClear()}
	for _, key := range keysToTry() {
		l = append(l, aDrop(key), aPut(key, aText("x"), 0))
		for _, due := range []int{0, 1, 255, 256, top - 1, top} {
			l = append(l, aDue(key, due))
		}
	}
	for _, v := range goodValues() {
		for _, due := range []int{0, 1, 258, top} {
			l = append(l, aPut("k", v, due))
		}
	}
	none := api.Value{List: []string{}, Fields: []api.Field{}, Ranked: []api.Scored{}}
	return append(l, api.Effect{Kind: 2, Key: "k", Value: none}, api.Effect{Kind: 3, Key: "k", Value: none, Due: 1}, api.Effect{Kind: 4, Value: none})
}

// bad is effects that may not be.
func bad() map[string]api.Effect {
	m := map[string]api.Effect{
		"a clear with a key":        {Kind: api.EffectClear, Key: "a"},
		"a clear with a byte 0":     {Kind: api.EffectClear, Key: "\x00"},
		"a drop with a deadline":    {Kind: api.EffectDrop, Key: "a", Due: 1},
		"a drop with MaxTick":       {Kind: api.EffectDrop, Key: "a", Due: top},
		"a drop with -1":            {Kind: api.EffectDrop, Key: "a", Due: -1},
		"a clear with a deadline":   {Kind: api.EffectClear, Due: 1},
		"a clear with MaxTick":      {Kind: api.EffectClear, Due: top},
		"a clear with -1":           {Kind: api.EffectClear, Due: -1},
		"a clear with key and due":  {Kind: api.EffectClear, Key: "a", Due: 1},
		"an effect that is nothing": {},
	}
	for _, kind := range []int{math.MinInt, -256, -4, -1, 0, 5, 6, 255, 256, 257, 258, 260, 1<<32 + 2, math.MaxInt} {
		m[fmt.Sprint("Kind ", kind)] = api.Effect{Kind: kind}
		m[fmt.Sprint("Kind ", kind, " with a key")] = api.Effect{Kind: kind, Key: "a"}
		m[fmt.Sprint("Kind ", kind, " with all")] = api.Effect{Kind: kind, Key: "a", Value: aText("x"), Due: 5}
	}
	for what, v := range badValues() {
		m["a put of "+what] = aPut("a", v, 0)
		m["a put of "+what+" with a deadline"] = aPut("a", v, 5)
	}
	for what, v := range notZero() {
		m["a drop with "+what] = api.Effect{Kind: api.EffectDrop, Key: "a", Value: v}
		m["a due with "+what] = api.Effect{Kind: api.EffectDue, Key: "a", Value: v, Due: 5}
		m["a clear with "+what] = api.Effect{Kind: api.EffectClear, Value: v}
	}
	for _, due := range noDeadlines() {
		m[fmt.Sprint("a put with the deadline ", due)] = aPut("a", aText("x"), due)
		m[fmt.Sprint("a due with the deadline ", due)] = aDue("a", due)
	}
	return m
}

// same says whether two lists of effects are the same; a list within them that is nil is one of no length.
func same(a, b []api.Effect) bool {
	if len(a) != len(b) {
		return false
	}
	for i := range a {
		if a[i].Kind != b[i].Kind || a[i].Key != b[i].Key || a[i].Due != b[i].Due || !value.Same(a[i].Value, b[i].Value) {
			return false
		}
	}
	return true
}

// show is effects as one text, long texts cut.
func show(l []api.Effect) string {
	var out []string
	for _, e := range l {
		out = append(out, fmt.Sprintf("{%d %.20q %d %.60s}", e.Kind, e.Key, e.Due, fmt.Sprintf("%d %.20q %.20q %q %v", e.Value.Kind, e.Value.Text, e.Value.List, e.Value.Fields, e.Value.Ranked)))
	}
	return strings.Join(out, " ")
}

// b8 is a number in eight bytes, the lowest first.
func b8(n uint64) string {
	var b [8]byte
	for i := range b {
		b[i] = byte(n % 256)
		n /= 256
	}
	return string(b[:])
}

// lay is a key with its length ahead.
func lay(key string) string { return b8(uint64(len(key))) + key }

// refuses fails unless Encode refuses a list, without any other answer.
func refuses(t *testing.T, what string, l ...api.Effect) {
	t.Helper()
	if s, e := Encode(l); s != "" || e != api.ErrEffect {
		t.Errorf("%s: Encode: %.80q, %d", what, s, e)
	}
}

// P16.1: the bytes of each kind, written out.
func TestBytes(t *testing.T) {
	for _, c := range []struct {
		l    []api.Effect
		want string
	}{
		{nil, ""},
		{[]api.Effect{}, ""},
		{[]api.Effect{aDrop("a")}, "\x02\x01\x00\x00\x00\x00\x00\x00\x00a"},
		{[]api.Effect{aDrop("")}, "\x02\x00\x00\x00\x00\x00\x00\x00\x00"},
		{[]api.Effect{aDrop(strings.Repeat("k", 258))}, "\x02\x02\x01\x00\x00\x00\x00\x00\x00" + strings.Repeat("k", 258)},
		{[]api.Effect{aDrop(strings.Repeat("k", 1<<16+1))}, "\x02\x01\x00\x01\x00\x00\x00\x00\x00" + strings.Repeat("k", 1<<16+1)},
		{[]api.Effect{aClear()}, "\x04"},
		{[]api.Effect{aDue("a", 5)}, "\x03\x01\x00\x00\x00\x00\x00\x00\x00a\x05\x00\x00\x00\x00\x00\x00\x00"},
		{[]api.Effect{aDue("", 0)}, "\x03\x00\x00\x00\x00\x00\x00\x00\x00\x00\x00\x00\x00\x00\x00\x00\x00"},
		{[]api.Effect{aDue("\x00\xff", top)}, "\x03\x02\x00\x00\x00\x00\x00\x00\x00\x00\xff\x00\x00\x00\x00\x00\x00\x20\x00"},
		{[]api.Effect{aDue("ab", top-1)}, "\x03\x02\x00\x00\x00\x00\x00\x00\x00ab\xff\xff\xff\xff\xff\xff\x1f\x00"},
		{[]api.Effect{aPut("a", aText("x"), 0)}, "\x01\x01\x00\x00\x00\x00\x00\x00\x00a\x00\x00\x00\x00\x00\x00\x00\x00\x01\x01\x00\x00\x00x"},
		{[]api.Effect{aPut("", aText(""), 258)}, "\x01\x00\x00\x00\x00\x00\x00\x00\x00\x02\x01\x00\x00\x00\x00\x00\x00\x01\x00\x00\x00\x00"},
		{[]api.Effect{aPut("k", aList("b", ""), top)}, "\x01" + lay("k") + "\x00\x00\x00\x00\x00\x00\x20\x00\x02\x02\x00\x00\x00\x01\x00\x00\x00b\x00\x00\x00\x00"},
		{[]api.Effect{aPut("k", aHash(api.Field{Name: "n", Value: "v"}), 1)}, "\x01" + lay("k") + b8(1) + "\x03\x01\x00\x00\x00\x01\x00\x00\x00n\x01\x00\x00\x00v"},
		{[]api.Effect{aPut("k", aSet("a", "b"), 1)}, "\x01" + lay("k") + b8(1) + "\x04\x02\x00\x00\x00\x01\x00\x00\x00a\x01\x00\x00\x00b"},
		{[]api.Effect{aPut("k", aRank(api.Scored{Name: "a", Score: -1}), 1)}, "\x01" + lay("k") + b8(1) + "\x05\x01\x00\x00\x00\xff\xff\xff\xff\xff\xff\xff\xff\x01\x00\x00\x00a"},
		{[]api.Effect{aClear(), aClear(), aDrop("a"), aClear(), aDue("a", 5), aDrop("a")}, "\x04\x04\x02" + lay("a") + "\x04\x03" + lay("a") + b8(5) + "\x02" + lay("a")},
		{[]api.Effect{aPut("b", aText("y"), 7), aPut("a", aText("x"), 0), aPut("b", aText("y"), 7)},
			"\x01" + lay("b") + b8(7) + "\x01\x01\x00\x00\x00y\x01" + lay("a") + b8(0) + "\x01\x01\x00\x00\x00x\x01" + lay("b") + b8(7) + "\x01\x01\x00\x00\x00y"},
	} {
		if s, e := Encode(c.l); s != c.want || e != api.OK {
			t.Errorf("Encode(%s): %.80q, %d, not %.80q", show(c.l), s, e, c.want)
		}
		if l, e := Decode(c.want); !same(l, c.l) || e != api.OK {
			t.Errorf("Decode(%.80q): %s, %d, not %s", c.want, show(l), e, show(c.l))
		}
	}
}

// P16.1: the bytes of effects of every kind, against those that the chapter's words give.
func TestBytesOfGood(t *testing.T) {
	for _, x := range good() {
		want := modelBytes(x)
		if s, e := Encode([]api.Effect{x}); s != want || e != api.OK {
			t.Errorf("Encode(%s): %.80q, %d, not %.80q", show([]api.Effect{x}), s, e, want)
		}
	}
}

// P16.1: of several the bytes stand one behind the other.
func TestBytesOfSeveral(t *testing.T) {
	l := good()
	var want strings.Builder
	for _, x := range l {
		want.WriteString(modelBytes(x))
	}
	if s, e := Encode(l); s != want.String() || e != api.OK {
		t.Errorf("Encode of %d effects: %d bytes, not %d, %d", len(l), len(s), want.Len(), e)
	}
	for _, x := range kindsOfEffects() {
		for _, y := range kindsOfEffects() {
			both := []api.Effect{x, y}
			if s, e := Encode(both); s != modelBytes(x)+modelBytes(y) || e != api.OK {
				t.Errorf("Encode(%s): %q, %d", show(both), s, e)
			}
		}
	}
}

// kindsOfEffects is an effect of each kind.
func kindsOfEffects() []api.Effect {
	return []api.Effect{aPut("a", aText("x"), 3), aDrop("a"), aDue("a", 5), aClear()}
}

// P16.1: an effect that may not be is refused, alone and at every place among others that may.
func TestMayNotBe(t *testing.T) {
	for what, x := range bad() {
		refuses(t, what, x)
		for at := range 5 {
			refuses(t, fmt.Sprint(what, ", at place ", at), withOne(kindsOfEffects(), at, x)...)
		}
		refuses(t, what+", twice", x, x)
	}
}

// withOne is a list with one more at a place.
func withOne(l []api.Effect, at int, x api.Effect) []api.Effect {
	out := append([]api.Effect{}, l[:at]...)
	return append(append(out, x), l[at:]...)
}

// P16.1: what may be by the chapter's words is taken, and nothing else is: every Kind about those that there are, with each part filled or not.
func TestEveryPart(t *testing.T) {
	values := append(kinds(), api.Value{}, api.Value{List: []string{}}, aList(), aText(""))
	for _, v := range badValues() {
		values = append(values, v)
	}
	for _, v := range notZero() {
		values = append(values, v)
	}
	taken := 0
	for kind := -2; kind <= 8; kind++ {
		for _, key := range []string{"", "a"} {
			for _, due := range append(noDeadlines(), 0, 1, top) {
				for _, v := range values {
					x := api.Effect{Kind: kind, Key: key, Value: v, Due: due}
					s, e := Encode([]api.Effect{x})
					switch {
					case !modelMayBe(x):
						if s != "" || e != api.ErrEffect {
							t.Errorf("%s: Encode: %.80q, %d", show([]api.Effect{x}), s, e)
						}
					case s != modelBytes(x) || e != api.OK:
						t.Errorf("%s: Encode: %.80q, %d", show([]api.Effect{x}), s, e)
					default:
						taken++
					}
				}
			}
		}
	}
	if taken < 50 {
		t.Errorf("only %d were taken", taken)
	}
}

// A put may be just if a space takes it; space.Put is asked itself.
func TestPutAsSpace(t *testing.T) {
	values := goodValues()
	for _, v := range badValues() {
		values = append(values, v)
	}
	for _, v := range values {
		for _, due := range append(noDeadlines(), 0, 1, top) {
			takes := space.New().Put("k", v, due) == api.OK
			x := []api.Effect{aPut("k", v, due)}
			if _, e := Encode(x); (e == api.OK) != takes {
				t.Errorf("%s: Encode %d, a space takes it: %t", show(x), e, takes)
			}
			if e := Apply(space.New(), x); (e == api.OK) != takes {
				t.Errorf("%s: Apply %d, a space takes it: %t", show(x), e, takes)
			}
		}
	}
}

// The chapter's first example.
func TestFirstExample(t *testing.T) {
	for _, s := range []string{"\x05", "\x02"} {
		if l, e := Decode(s); len(l) != 0 || e != api.ErrEffect {
			t.Errorf("Decode(%q): %s, %d", s, show(l), e)
		}
	}
	if l, e := Decode(""); len(l) != 0 || e != api.OK {
		t.Errorf("Decode of no bytes: %s, %d", show(l), e)
	}
	refuses(t, "drop a with Due 1", api.Effect{Kind: 2, Key: "a", Due: 1})
	refuses(t, "Kind 0", api.Effect{})
	refuses(t, "Kind 5", api.Effect{Kind: 5})
	refuses(t, "a put of an empty list", aPut("a", aList(), 0))
}
