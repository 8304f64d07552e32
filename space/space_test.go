package space

import (
	"fmt"
	"math"
	"slices"
	"strings"
	"testing"

	"covenant/api"
)

const top = api.MaxTick

func aText(s string) api.Value { return api.Value{Kind: api.KindText, Text: s} }

func aList(l ...string) api.Value { return api.Value{Kind: api.KindList, List: l} }

func aSet(l ...string) api.Value { return api.Value{Kind: api.KindSet, List: l} }

func aHash(l ...api.Field) api.Value { return api.Value{Kind: api.KindHash, Fields: l} }

func aRank(l ...api.Scored) api.Value { return api.Value{Kind: api.KindRank, Ranked: l} }

// good is values of every kind that may be.
func good() []api.Value {
	return []api.Value{
		aText(""), aText("x"), aText("\x00\xff\r\n"), aText(strings.Repeat("x", api.MaxText)),
		aList(""), aList("b", "a", "b"),
		aHash(api.Field{}), aHash(api.Field{Name: "a", Value: "2"}, api.Field{Name: "b", Value: "1"}),
		aSet(""), aSet("a", "b"),
		aRank(api.Scored{}), aRank(api.Scored{Name: "b", Score: -api.MaxScore}, api.Scored{Name: "a", Score: api.MaxScore}),
	}
}

// refused is values that may not be, with their errors.
func refused() map[string]struct {
	v    api.Value
	want api.Errno
} {
	type row = struct {
		v    api.Value
		want api.Errno
	}
	return map[string]row{
		"nothing":              {api.Value{}, api.ErrKind},
		"Kind -1":              {api.Value{Kind: -1, Text: "x"}, api.ErrKind},
		"Kind 6":               {api.Value{Kind: 6, List: []string{"x"}}, api.ErrKind},
		"an empty list":        {aList(), api.ErrValue},
		"a list of no length":  {aList([]string{}...), api.ErrValue},
		"an empty hash":        {aHash(), api.ErrValue},
		"an empty set":         {aSet(), api.ErrValue},
		"an empty rank":        {aRank(), api.ErrValue},
		"a string with a list": {api.Value{Kind: api.KindText, List: []string{"x"}}, api.ErrValue},
		"a list with a text":   {api.Value{Kind: api.KindList, Text: "x", List: []string{"x"}}, api.ErrValue},
		"a set that falls":     {aSet("b", "a"), api.ErrValue},
		"a hash that falls":    {aHash(api.Field{Name: "b"}, api.Field{Name: "a"}), api.ErrValue},
		"a rank that falls":    {aRank(api.Scored{Name: "a", Score: 2}, api.Scored{Name: "b", Score: 1}), api.ErrValue},
		"a score above":        {aRank(api.Scored{Name: "a", Score: api.MaxScore + 1}), api.ErrValue},
		"a string too long":    {aText(strings.Repeat("x", api.MaxText+1)), api.ErrValue},
	}
}

// noDeadlines is numbers that are no deadlines.
func noDeadlines() []int { return []int{-1, -top, math.MinInt, top + 1, math.MaxInt} }

// show is a value as one text; a list that is nil shows as one of no length.
func show(v api.Value) string {
	if v.Kind == api.KindText && len(v.List)+len(v.Fields)+len(v.Ranked) == 0 && v.Text != "" && len(v.Text) < 100 {
		return v.Text
	}
	return fmt.Sprintf("%d%.100q%q%q%q", v.Kind, fmt.Sprint(len(v.Text), v.Text), v.List, v.Fields, fmt.Sprint(v.Ranked))
}

// told is all entries and the counter, as in "a=x@5#1 b=y#2 /2": each key, its value, its deadline if it has one, its version.
func told(s *Space) string {
	return row(s.Entries()) + fmt.Sprintf("/%d", s.Counter())
}

func row(l []api.Entry) string {
	var out strings.Builder
	for _, e := range l {
		fmt.Fprintf(&out, "%s=%s", e.Key, show(e.Value))
		if e.Due != 0 {
			fmt.Fprintf(&out, "@%d", e.Due)
		}
		fmt.Fprintf(&out, "#%d ", e.Version)
	}
	return out.String()
}

// changed is all changes and the keys touched, as in "put a=x@5 drop b due a@0 clear / a b".
func changed(s *Space) string {
	var out strings.Builder
	for _, c := range s.Changes() {
		switch c.Kind {
		case api.EffectPut:
			fmt.Fprintf(&out, "put %s=%s@%d ", c.Key, show(c.Value), c.Due)
		case api.EffectDrop:
			fmt.Fprintf(&out, "drop %s ", c.Key)
		case api.EffectDue:
			fmt.Fprintf(&out, "due %s@%d ", c.Key, c.Due)
		case api.EffectClear:
			out.WriteString("clear ")
		default:
			fmt.Fprintf(&out, "%v ", c)
		}
		// What a kind of change gives no meaning is zero.
		if c.Kind != api.EffectPut && show(c.Value) != show(api.Value{}) || c.Kind == api.EffectDrop && c.Due != 0 || c.Kind == api.EffectClear && (c.Due != 0 || c.Key != "") {
			fmt.Fprintf(&out, "with %v ", c)
		}
	}
	return out.String() + strings.Join(append([]string{"/"}, s.Touched()...), " ")
}

// is fails unless a text is the one that is wanted.
func is(t *testing.T, what, got, want string) {
	t.Helper()
	if got != want {
		t.Errorf("%s: %s, not %s", what, got, want)
	}
}

// holds fails unless a space tells these entries and this counter.
func holds(t *testing.T, what string, s *Space, want string) {
	t.Helper()
	is(t, what, told(s), want)
}

// put is Put of a string, which must be OK.
func put(t *testing.T, s *Space, key, text string, due int) {
	t.Helper()
	if e := s.Put(key, aText(text), due); e != api.OK {
		t.Fatalf("Put(%q, %q, %d): %d", key, text, due, e)
	}
}

// made is a space with a=x, b=y and the deadline 5, c=z and the deadline 9.
func made(t *testing.T) *Space {
	t.Helper()
	s := New()
	put(t, s, "a", "x", 0)
	put(t, s, "b", "y", 5)
	put(t, s, "c", "z", 9)
	return s
}

const asMade = "a=x#1 b=y@5#2 c=z@9#3 /3"

// gone is what All goes over, as in "a=x b=y".
func gone(s *Space, now int) string {
	var out []string
	for key, v := range s.All(now) {
		out = append(out, key+"="+show(v))
	}
	return strings.Join(out, " ")
}

// P14.1: a new space has nothing, and no mark; two have nothing together.
func TestNew(t *testing.T) {
	s, other := New(), New()
	holds(t, "New", s, "/0")
	for _, now := range []int{math.MinInt, -1, 0, 1, math.MaxInt} {
		if v, ok := s.Get("", now); ok || show(v) != show(api.Value{}) {
			t.Errorf("Get: %v %t", v, ok)
		}
		if due, ok := s.Due("", now); ok || due != 0 {
			t.Errorf("Due: %d %t", due, ok)
		}
		if s.Over("", now) || s.Len(now) != 0 || len(s.Keys(now)) != 0 || len(s.Stale(now, 9)) != 0 || gone(s, now) != "" {
			t.Errorf("at %d: %t %d %q %q %q", now, s.Over("", now), s.Len(now), s.Keys(now), s.Stale(now, 9), gone(s, now))
		}
	}
	if s.Version("") != 0 || s.Bytes() != "" || s.Drop("") || s.SetDue("", 1) || s.Clear() != 0 {
		t.Error("of nothing")
	}
	if s.Back() != api.ErrMark || s.Keep() != api.ErrMark {
		t.Error("a mark stands")
	}
	is(t, "Changes", changed(s), "/")
	put(t, s, "a", "x", 3)
	s.Mark()
	holds(t, "the other", other, "/0")
	if len(other.Stale(9, 9)) != 0 || other.Mark() != api.OK {
		t.Error("the other")
	}
}

// P14.1, P14.4: what is told of one key, at ticks below, at and above its deadline.
func TestSeen(t *testing.T) {
	for _, due := range []int{0, 1, 2, 5, top - 1, top} {
		for _, key := range []string{"", "k", "\x00\xff"} {
			s := New()
			put(t, s, "zz", "other", 0)
			put(t, s, key, "x", due)
			for _, now := range []int{math.MinInt, -top, -1, 0, 1, due - 1, due, due + 1, top, top + 1, math.MaxInt} {
				over := due != 0 && due <= now
				what := fmt.Sprintf("the deadline %d at %d", due, now)
				v, ok := s.Get(key, now)
				if ok == over || ok && show(v) != "x" || !ok && show(v) != show(api.Value{}) {
					t.Errorf("%s: Get %v %t", what, v, ok)
				}
				d, ok := s.Due(key, now)
				if ok == over || ok && d != due || !ok && d != 0 {
					t.Errorf("%s: Due %d %t", what, d, ok)
				}
				if s.Over(key, now) != over || s.Version(key) != 2 {
					t.Errorf("%s: Over %t, Version %d", what, s.Over(key, now), s.Version(key))
				}
				keys, stale, walk := []string{key, "zz"}, []string{}, key+"=x zz=other"
				if over {
					keys, stale, walk = []string{"zz"}, []string{key}, "zz=other"
				}
				if !slices.Equal(s.Keys(now), keys) || !slices.Equal(s.Stale(now, 9), stale) || s.Len(now) != len(keys) || gone(s, now) != walk {
					t.Errorf("%s: Keys %q, Stale %q, Len %d, All %q", what, s.Keys(now), s.Stale(now, 9), s.Len(now), gone(s, now))
				}
			}
			if len(s.Entries()) != 2 || s.Counter() != 2 {
				t.Errorf("behind asking: %s", told(s))
			}
		}
	}
}

// P14.1, P14.4: keys that are not there, however near they are to those that are.
func TestNotThere(t *testing.T) {
	s := New()
	for _, key := range []string{"a", "ab", "\x00"} {
		put(t, s, key, "x", 5)
	}
	for _, key := range []string{"", "A", "a\x00", "aa", "abc", "b", "\x00\x00", "\xff"} {
		for _, now := range []int{-1, 0, 4, 5, 6} {
			v, ok := s.Get(key, now)
			d, has := s.Due(key, now)
			if ok || has || d != 0 || show(v) != show(api.Value{}) || s.Version(key) != 0 || s.Over(key, now) {
				t.Errorf("%q at %d: %v %t, %d %t, %d, %t", key, now, v, ok, d, has, s.Version(key), s.Over(key, now))
			}
		}
	}
}

// P14.2: a new key has the value and the deadline, whatever kind of value it is.
func TestPut(t *testing.T) {
	for _, v := range good() {
		for _, due := range []int{0, 1, 7, top - 1, top} {
			s := New()
			put(t, s, "a", "other", 3)
			s.Mark()
			if e := s.Put("k", v, due); e != api.OK {
				t.Fatalf("Put(%s, %d): %d", show(v), due, e)
			}
			got, ok := s.Get("k", 0)
			d, has := s.Due("k", 0)
			if !ok || !has || show(got) != show(v) || got.Text != v.Text || d != due || s.Version("k") != 2 || s.Version("a") != 1 || s.Counter() != 2 {
				t.Errorf("%s, %d: Get %s %t, Due %d %t, %s", show(v), due, show(got), ok, d, has, told(s))
			}
			is(t, "Changes", changed(s), fmt.Sprintf("put k=%s@%d / k", show(v), due))
		}
	}
}

// P14.2: a key that is there loses what it had: value, kind, deadline, version; seen or over.
func TestPutAgain(t *testing.T) {
	for _, first := range good() {
		for _, v := range good() {
			for _, had := range []int{0, 5} {
				for _, due := range []int{0, 4, 5, 6} {
					s := New()
					s.Put("k", first, had)
					if e := s.Put("k", v, due); e != api.OK {
						t.Fatalf("%s, then %s: %d", show(first), show(v), e)
					}
					want := row([]api.Entry{{Key: "k", Value: v, Due: due, Version: 2}}) + "/2"
					holds(t, "Put again", s, want)
					if over := due == 4 || due == 5; s.Over("k", 5) != over || len(s.Stale(5, 9)) == 1 != over || len(s.Keys(5)) == 1 == over {
						t.Errorf("the deadline %d behind %d: Over %t, Stale %q, Keys %q", due, had, s.Over("k", 5), s.Stale(5, 9), s.Keys(5))
					}
				}
			}
		}
	}
}

// P14.2: what is refused, by which error, and that nothing is changed or noted by it.
func TestPutRefused(t *testing.T) {
	s := made(t)
	s.Mark()
	for _, key := range []string{"a", "b", "q", ""} {
		for what, c := range refused() {
			// The value's error comes ahead of the deadline's.
			for _, due := range append(noDeadlines(), 0, 1, top) {
				if e := s.Put(key, c.v, due); e != c.want {
					t.Errorf("%s, %d: %d, not %d", what, due, e, c.want)
				}
			}
		}
		for _, v := range good() {
			for _, due := range noDeadlines() {
				if e := s.Put(key, v, due); e != api.ErrTick {
					t.Errorf("%s, %d: %d", show(v), due, e)
				}
			}
		}
	}
	holds(t, "behind what is refused", s, asMade)
	is(t, "Changes", changed(s), "/")
	put(t, s, "a", "x", top)
	holds(t, "the last deadline", s, fmt.Sprintf("a=x@%d#4 b=y@5#2 c=z@9#3 /4", top))
}

// P14.3: Drop of keys that are there, which may be over long since, and of others.
func TestDrop(t *testing.T) {
	s := made(t)
	s.Mark()
	if s.Drop("q") || s.Drop("") || s.Drop("A") || s.Drop("a\x00") {
		t.Error("a key that is not there")
	}
	holds(t, "behind no Drop", s, asMade)
	is(t, "Changes behind no Drop", changed(s), "/")
	if !s.Drop("b") || s.Drop("b") {
		t.Error("Drop")
	}
	holds(t, "behind Drop", s, "a=x#1 c=z@9#3 /4")
	if s.Version("b") != 0 || s.Over("b", 99) || !slices.Equal(s.Stale(99, 9), []string{"c"}) || s.Len(99) != 1 {
		t.Errorf("b is there: %d %t %q", s.Version("b"), s.Over("b", 99), s.Stale(99, 9))
	}
	if !s.Over("c", 99) || !s.Drop("c") || !s.Drop("a") {
		t.Error("Drop of the others")
	}
	holds(t, "behind all", s, "/6")
	is(t, "Changes", changed(s), "drop b drop c drop a / a b c")
	put(t, s, "b", "new", 0)
	holds(t, "put again", s, "b=new#7 /7")
	if s.Over("b", 99) || len(s.Stale(99, 9)) != 0 {
		t.Error("its old deadline is there")
	}
}

// P14.3: SetDue of keys with and without a deadline, seen and over, the same deadline too.
func TestSetDue(t *testing.T) {
	s := made(t)
	s.Mark()
	for i, c := range []struct {
		key   string
		due   int
		want  string
		stale string
	}{
		{"a", 7, "a=x@7#4 b=y@5#2 c=z@9#3 /4", "b a c"},
		{"b", 0, "a=x@7#4 b=y#5 c=z@9#3 /5", "a c"},
		{"c", 9, "a=x@7#4 b=y#5 c=z@9#6 /6", "a c"},
		{"b", 0, "a=x@7#4 b=y#7 c=z@9#6 /7", "a c"},
		{"c", 1, "a=x@7#4 b=y#7 c=z@1#8 /8", "c a"},
		{"b", 1, "a=x@7#4 b=y@1#9 c=z@1#8 /9", "b c a"},
		{"c", 0, "a=x@7#4 b=y@1#9 c=z#10 /10", "b a"},
		{"a", top, fmt.Sprintf("a=x@%d#11 b=y@1#9 c=z#10 /11", top), "b"},
	} {
		if !s.SetDue(c.key, c.due) {
			t.Errorf("step %d: false", i)
		}
		holds(t, fmt.Sprintf("step %d", i), s, c.want)
		is(t, fmt.Sprintf("Stale behind step %d", i), strings.Join(s.Stale(99, 99), " "), c.stale)
	}
	is(t, "Changes", changed(s), fmt.Sprintf("due a@7 due b@0 due c@9 due b@0 due c@1 due b@1 due c@0 due a@%d / a b c", top))
}

// P14.3: SetDue of keys that are not there, and of deadlines that may not be.
func TestSetDueRefused(t *testing.T) {
	s := made(t)
	s.Mark()
	for _, key := range []string{"", "A", "q", "a\x00"} {
		for _, due := range append(noDeadlines(), 0, 1, top) {
			if s.SetDue(key, due) {
				t.Errorf("%q, %d: true", key, due)
			}
		}
	}
	for _, key := range []string{"a", "b", "c"} {
		for _, due := range noDeadlines() {
			if s.SetDue(key, due) {
				t.Errorf("%q, %d: true", key, due)
			}
		}
	}
	holds(t, "behind what is refused", s, asMade)
	is(t, "Changes", changed(s), "/")
}

// P14.3: Clear counts each key as one touch, and is one change, if there was a key.
func TestClear(t *testing.T) {
	s := made(t)
	if n := s.Clear(); n != 3 {
		t.Errorf("Clear: %d", n)
	}
	holds(t, "behind Clear", s, "/6")
	if s.Version("a") != 0 || s.Over("b", 99) || len(s.Stale(99, 9)) != 0 || len(s.Keys(0)) != 0 || s.Len(0) != 0 || s.Bytes() != "" || gone(s, 0) != "" {
		t.Error("what was cleared is there")
	}
	if n := s.Clear(); n != 0 {
		t.Errorf("Clear of nothing: %d", n)
	}
	holds(t, "behind Clear of nothing", s, "/6")
	s.Mark()
	s.Clear()
	is(t, "Changes of nothing", changed(s), "/")
	put(t, s, "q", "x", 1)
	if n := s.Clear(); n != 1 {
		t.Errorf("Clear: %d", n)
	}
	s.Clear()
	is(t, "Changes", changed(s), "put q=x@1 clear / q")
	holds(t, "behind the second", s, "/8")
	put(t, s, "b", "new", 0)
	holds(t, "put again", s, "b=new#9 /9")
	if s.Over("b", 99) {
		t.Error("its old deadline is there")
	}
}

// The counter and the versions behind each call that may touch.
func TestVersions(t *testing.T) {
	s := New()
	for i, c := range []struct {
		do   func()
		want string
	}{
		{func() { put(t, s, "a", "x", 0) }, "a=x#1 /1"},
		{func() { put(t, s, "a", "x", 0) }, "a=x#2 /2"},
		{func() { put(t, s, "b", "x", 0) }, "a=x#2 b=x#3 /3"},
		{func() { s.Put("a", aList(), 0) }, "a=x#2 b=x#3 /3"},
		{func() { s.Put("a", aText("y"), -1) }, "a=x#2 b=x#3 /3"},
		{func() { s.SetDue("a", 0) }, "a=x#4 b=x#3 /4"},
		{func() { s.SetDue("a", -1) }, "a=x#4 b=x#3 /4"},
		{func() { s.SetDue("c", 0) }, "a=x#4 b=x#3 /4"},
		{func() { s.Drop("c") }, "a=x#4 b=x#3 /4"},
		{func() { s.Drop("a") }, "b=x#3 /5"},
		{func() { put(t, s, "a", "z", 0) }, "a=z#6 b=x#3 /6"},
		{func() { s.Clear() }, "/8"},
		{func() { s.Clear() }, "/8"},
		{func() { put(t, s, "b", "x", 0) }, "b=x#9 /9"},
	} {
		c.do()
		holds(t, fmt.Sprintf("step %d", i), s, c.want)
	}
}

// The chapter's examples.
func TestExamples(t *testing.T) {
	s := New()
	put(t, s, "a", "x", 0)
	if s.Version("a") != 1 {
		t.Errorf("Version(a): %d", s.Version("a"))
	}
	put(t, s, "b", "y", 5)
	if v, ok := s.Get("b", 4); show(v) != "y" || !ok || s.Counter() != 2 {
		t.Errorf("Get(b, 4): %v %t, Counter %d", v, ok, s.Counter())
	}
	if _, ok := s.Get("b", 5); ok || s.Len(5) != 1 || !slices.Equal(s.Stale(5, 9), []string{"b"}) || !s.Over("b", 5) {
		t.Errorf("at 5: Get %t, Len %d, Stale %q", ok, s.Len(5), s.Stale(5, 9))
	}
	if s.Put("c", aList(), 0) != api.ErrValue || s.Put("c", aText("z"), -1) != api.ErrTick {
		t.Error("Put of what may not be")
	}
	holds(t, "the first", s, "a=x#1 b=y@5#2 /2")

	if s.Mark() != api.OK || !s.Drop("a") || !s.SetDue("b", 0) || s.SetDue("q", 3) {
		t.Error("the second")
	}
	is(t, "the second", changed(s), "drop a due b@0 / a b")
	holds(t, "the second", s, "b=y#4 /4")
	if s.Back() != api.OK || s.Back() != api.ErrMark {
		t.Error("Back")
	}
	holds(t, "behind Back", s, "a=x#1 b=y@5#2 /2")

	if s.Mark() != api.OK || s.Clear() != 2 {
		t.Error("the third")
	}
	is(t, "the third", changed(s), "clear / a b")
	if s.Counter() != 4 || s.Keep() != api.OK || s.Clear() != 0 {
		t.Error("the third")
	}
	holds(t, "behind Keep", s, "/4")
	is(t, "Bytes", s.Bytes(), "")
}

// On a nil space.
func TestNil(t *testing.T) {
	var s *Space
	for _, now := range []int{math.MinInt, -1, 0, 5, math.MaxInt} {
		v, ok := s.Get("a", now)
		due, has := s.Due("a", now)
		if ok || has || due != 0 || show(v) != show(api.Value{}) || s.Over("a", now) || s.Len(now) != 0 || len(s.Keys(now)) != 0 || gone(s, now) != "" {
			t.Errorf("at %d", now)
		}
		for _, most := range []int{-1, 0, 1, math.MaxInt} {
			if len(s.Stale(now, most)) != 0 {
				t.Errorf("Stale(%d, %d)", now, most)
			}
		}
	}
	for _, v := range append(good(), api.Value{}, aList()) {
		for _, due := range []int{-1, 0, 5} {
			if e := s.Put("a", v, due); e != api.ErrArg {
				t.Errorf("Put: %d", e)
			}
		}
	}
	entry := []api.Entry{{Key: "a", Value: aText("x"), Version: 1}}
	for _, l := range [][]api.Entry{nil, entry, {{}}} {
		if e := s.Load(l); e != api.ErrArg {
			t.Errorf("Load: %d", e)
		}
	}
	for range 2 {
		if s.Mark() != api.ErrArg || s.Back() != api.ErrArg || s.Keep() != api.ErrArg {
			t.Error("Mark, Back, Keep")
		}
	}
	if s.Version("a") != 0 || s.Counter() != 0 || s.Drop("a") || s.SetDue("a", 1) || s.SetDue("a", -1) || s.Clear() != 0 || s.Bytes() != "" {
		t.Error("other calls")
	}
	holds(t, "nil", s, "/0")
	is(t, "nil", changed(s), "/")
}
