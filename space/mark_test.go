package space

import (
	"fmt"
	"math"
	"strings"
	"testing"

	"covenant/api"
)

// whole is all that a space tells of its keys, at several ticks.
func whole(s *Space) string {
	var out strings.Builder
	fmt.Fprintf(&out, "%s %q", told(s), s.Bytes())
	for _, now := range []int{-1, 0, 1, 4, 5, 8, 9, top, math.MaxInt} {
		fmt.Fprintf(&out, " %d: %q %q %d %q", now, s.Keys(now), s.Stale(now, math.MaxInt), s.Len(now), gone(s, now))
		for _, key := range []string{"", "a", "b", "c", "d"} {
			v, ok := s.Get(key, now)
			due, has := s.Due(key, now)
			fmt.Fprintf(&out, " %s %t %d %t %d %t", show(v), ok, due, has, s.Version(key), s.Over(key, now))
		}
	}
	return out.String()
}

// P14.5: at most one mark stands; Back and Keep ask for one, and take it away.
func TestOneMark(t *testing.T) {
	s := made(t)
	was := whole(s)
	for _, end := range []func() api.Errno{s.Back, s.Keep} {
		for range 2 {
			if s.Back() != api.ErrMark || s.Keep() != api.ErrMark {
				t.Error("without a mark")
			}
		}
		if e := s.Mark(); e != api.OK {
			t.Errorf("Mark: %d", e)
		}
		for range 2 {
			if e := s.Mark(); e != api.ErrMark {
				t.Errorf("Mark again: %d", e)
			}
		}
		if e := end(); e != api.OK {
			t.Errorf("its end: %d", e)
		}
	}
	is(t, "behind marks alone", whole(s), was)
	is(t, "Changes", changed(s), "/")
}

// P14.5: a second Mark, which is refused, leaves the first one and its changes.
func TestMarkRefused(t *testing.T) {
	s := made(t)
	was := whole(s)
	s.Mark()
	s.Drop("a")
	s.Mark()
	put(t, s, "b", "new", 0)
	is(t, "Changes", changed(s), "drop a put b=new@0 / a b")
	s.Back()
	is(t, "behind Back", whole(s), was)
}

// P14.5: Keep leaves all as it is; a mark behind it has no changes, and Back goes no further than to that.
func TestKeep(t *testing.T) {
	s := made(t)
	s.Mark()
	s.Drop("a")
	s.SetDue("b", 1)
	put(t, s, "d", "new", 8)
	kept := whole(s)
	if s.Keep() != api.OK {
		t.Error("Keep")
	}
	is(t, "behind Keep", whole(s), kept)
	is(t, "Changes behind Keep", changed(s), "/")
	holds(t, "behind Keep", s, "b=y@1#5 c=z@9#3 d=new@8#6 /6")
	s.Mark()
	is(t, "Changes of a new mark", changed(s), "/")
	s.Clear()
	s.Back()
	is(t, "behind Back to the second mark", whole(s), kept)
	is(t, "Changes behind Back", changed(s), "/")
}

// P14.5: Changes and Touched behind each kind of change, and behind calls that touch nothing.
func TestChanges(t *testing.T) {
	for i, c := range []struct {
		do   func(s *Space)
		want string
	}{
		{func(s *Space) {}, "/"},
		{func(s *Space) { put(t, s, "d", "v", 4) }, "put d=v@4 / d"},
		{func(s *Space) { put(t, s, "a", "x", 0) }, "put a=x@0 / a"},
		{func(s *Space) { s.Put("c", aList("v"), 9) }, "put c=" + show(aList("v")) + "@9 / c"},
		{func(s *Space) { s.Drop("b") }, "drop b / b"},
		{func(s *Space) { s.SetDue("b", 5) }, "due b@5 / b"},
		{func(s *Space) { s.SetDue("b", 0) }, "due b@0 / b"},
		{func(s *Space) { s.Clear() }, "clear / a b c"},
		{func(s *Space) { s.Drop("d"); s.SetDue("d", 1); s.SetDue("a", -1) }, "/"},
		{func(s *Space) { s.Put("a", aList(), 0); s.Put("a", aText("v"), top+1); s.Load(nil); s.Mark() }, "/"},
		// Touched twice, and put and dropped again: once, and touched all the same.
		{func(s *Space) { put(t, s, "c", "1", 0); put(t, s, "a", "2", 0); put(t, s, "c", "3", 0) }, "put c=1@0 put a=2@0 put c=3@0 / a c"},
		{func(s *Space) { put(t, s, "d", "v", 0); s.Drop("d") }, "put d=v@0 drop d / d"},
		{func(s *Space) { s.Drop("b"); put(t, s, "b", "y", 5) }, "drop b put b=y@5 / b"},
		{func(s *Space) { s.Drop("b"); s.Drop("b") }, "drop b / b"},
		{func(s *Space) { s.Clear(); s.Clear(); put(t, s, "", "v", 1); s.Clear() }, "clear put =v@1 clear /  a b c"},
		{func(s *Space) { put(t, s, "d", "v", 0); s.Clear(); s.SetDue("a", 1) }, "put d=v@0 clear / a b c d"},
	} {
		s := made(t)
		c.do(s)
		is(t, fmt.Sprintf("row %d without a mark", i), changed(s), changed(New()))
		s = made(t)
		if s.Mark() != api.OK {
			t.Fatal("Mark")
		}
		c.do(s)
		is(t, fmt.Sprintf("row %d", i), changed(s), c.want)
		is(t, fmt.Sprintf("row %d, asked again", i), changed(s), c.want)
		s.Keep()
		is(t, fmt.Sprintf("row %d behind Keep", i), changed(s), "/")
	}
}

// P14.5, P14.8: Back behind each kind of change, and behind several.
func TestBack(t *testing.T) {
	for i, do := range []func(s *Space){
		func(s *Space) {},
		func(s *Space) { put(t, s, "d", "v", 4) },
		func(s *Space) { put(t, s, "a", "v", 1) },
		func(s *Space) { put(t, s, "b", "v", 0) },
		func(s *Space) { put(t, s, "b", "y", 5) },
		func(s *Space) { s.Put("c", aRank(api.Scored{Name: "v"}), 9) },
		func(s *Space) { s.Drop("a") },
		func(s *Space) { s.Drop("b") },
		func(s *Space) { s.SetDue("a", 3) },
		func(s *Space) { s.SetDue("b", 5) },
		func(s *Space) { s.SetDue("c", 0) },
		func(s *Space) { s.Clear() },
		func(s *Space) { s.Clear(); s.Clear() },
		func(s *Space) { s.Clear(); put(t, s, "b", "v", 1); put(t, s, "d", "v", 1) },
		func(s *Space) { put(t, s, "d", "v", 1); s.SetDue("b", 7); s.Clear(); put(t, s, "b", "v", 0) },
		func(s *Space) { put(t, s, "d", "v", 1); s.Drop("d") },
		func(s *Space) { s.Drop("b"); put(t, s, "b", "v", 1); s.SetDue("b", 2); s.Drop("b") },
		func(s *Space) { s.SetDue("c", 2); s.Drop("c") },
		func(s *Space) {
			s.Mark()
			s.Load(nil)
			s.Changes()
			s.Touched()
			s.Entries()
			gone(s, 0)
		},
	} {
		s := made(t)
		was := whole(s)
		// The same again behind Back is the same again: nothing of the first time is left.
		var first string
		for round := range 3 {
			if s.Mark() != api.OK {
				t.Fatal("Mark")
			}
			do(s)
			if now := whole(s) + changed(s); round == 0 {
				first = now
			} else if now != first {
				t.Errorf("row %d in round %d: %s, not %s", i, round, now, first)
			}
			if s.Back() != api.OK || s.Back() != api.ErrMark {
				t.Errorf("row %d: Back", i)
			}
			is(t, fmt.Sprintf("row %d behind Back", i), whole(s), was)
			is(t, fmt.Sprintf("row %d, Changes behind Back", i), changed(s), "/")
		}
		put(t, s, "d", "v", 0)
		holds(t, fmt.Sprintf("row %d, a touch behind Back", i), s, "a=x#1 b=y@5#2 c=z@9#3 d=v#4 /4")
	}
}

// P14.8: Back on a space that had no key, and on one whose counter is above all its versions.
func TestBackOfLittle(t *testing.T) {
	s := New()
	s.Mark()
	put(t, s, "a", "x", 1)
	s.Back()
	holds(t, "no key", s, "/0")
	put(t, s, "a", "x", 1)
	put(t, s, "b", "y", 1)
	s.Drop("b")
	s.Mark()
	s.Clear()
	s.Back()
	holds(t, "a counter above all", s, "a=x@1#1 /3")
	s.Clear()
	s.Mark()
	put(t, s, "a", "x", 1)
	s.Back()
	holds(t, "no key any more", s, "/4")
	if len(s.Stale(9, 9)) != 0 {
		t.Errorf("Stale: %q", s.Stale(9, 9))
	}
}

// done does a change on a space.
func done(s *Space, c api.Effect) {
	switch c.Kind {
	case api.EffectPut:
		s.Put(c.Key, c.Value, c.Due)
	case api.EffectDrop:
		s.Drop(c.Key)
	case api.EffectDue:
		s.SetDue(c.Key, c.Due)
	case api.EffectClear:
		s.Clear()
	}
}

// P14.9: the changes, done on a space that is as this one was at the mark, make it what this one is.
func TestChangesDone(t *testing.T) {
	s, other := made(t), made(t)
	s.Mark()
	for _, v := range good() {
		s.Put("d", v, 7)
		s.Put("", v, 0)
	}
	s.SetDue("b", 5)
	s.SetDue("a", -1)
	s.Drop("c")
	s.Drop("c")
	s.Put("a", aList(), 0)
	s.Clear()
	s.Clear()
	for i, v := range good() {
		s.Put(string(rune('a'+i)), v, i)
	}
	s.SetDue("b", 0)
	s.Drop("e")
	for _, c := range s.Changes() {
		done(other, c)
	}
	is(t, "done again", whole(other), whole(s))
	s.Keep()
	is(t, "done again, behind Keep", whole(other), whole(s))
}
