package space

import (
	"fmt"
	"math"
	"slices"
	"strings"
	"testing"

	"covenant/api"
)

// many is a space whose keys came in no order, with several of one deadline.
func many(t *testing.T) *Space {
	t.Helper()
	s := New()
	for _, c := range []struct {
		key string
		due int
	}{{"m", 7}, {"\xff", 3}, {"b", 7}, {"", 3}, {"a\x00", 0}, {"z", 1}, {"a", 7}, {"ab", 0}, {"c", top}} {
		put(t, s, c.key, "v", c.due)
	}
	return s
}

// P14.4: Stale by deadlines, of one deadline by keys, at every tick, and the first ones alone.
func TestStale(t *testing.T) {
	s := many(t)
	order := []string{"z", "", "\xff", "a", "b", "m", "c"}
	for now, n := range map[int]int{math.MinInt: 0, -1: 0, 0: 0, 1: 1, 2: 1, 3: 3, 4: 3, 6: 3, 7: 6, 8: 6, top - 1: 6, top: 7, top + 1: 7, math.MaxInt: 7} {
		for _, most := range []int{math.MinInt, -1, 0, 1, 2, 3, 4, 5, 6, 7, 8, 99, math.MaxInt} {
			want := order[:max(0, min(n, most))]
			if got := s.Stale(now, most); !slices.Equal(got, want) {
				t.Errorf("Stale(%d, %d): %q, not %q", now, most, got, want)
			}
		}
	}
	holds(t, "behind Stale", s, told(many(t)))
}

// P14.4, P14.10: Keys, Len and All at every tick: what Stale does not tell.
func TestKeys(t *testing.T) {
	s := many(t)
	all := []string{"", "a", "a\x00", "ab", "b", "c", "m", "z", "\xff"}
	for _, now := range []int{math.MinInt, -1, 0, 1, 2, 3, 4, 6, 7, 8, top - 1, top, top + 1, math.MaxInt} {
		stale := s.Stale(now, math.MaxInt)
		var want, walk []string
		for _, key := range all {
			if !slices.Contains(stale, key) {
				want, walk = append(want, key), append(walk, key+"=v")
			}
		}
		if got := s.Keys(now); !slices.Equal(got, want) || s.Len(now) != len(want) || gone(s, now) != strings.Join(walk, " ") {
			t.Errorf("at %d: Keys %q, Len %d, All %q, not %q", now, got, s.Len(now), gone(s, now), want)
		}
	}
	for now, n := range map[int]int{0: 9, 1: 8, 3: 6, 7: 3, top: 2} {
		if s.Len(now) != n {
			t.Errorf("Len(%d): %d, not %d", now, s.Len(now), n)
		}
	}
}

// P14.4: All may be left at every place, and gone over again.
func TestAllLeft(t *testing.T) {
	s := many(t)
	all := s.All(0)
	for most := range 11 {
		var got []string
		for key := range all {
			if len(got) == most {
				break
			}
			got = append(got, key)
		}
		if want := s.Keys(0); !slices.Equal(got, want[:min(most, len(want))]) {
			t.Errorf("left behind %d: %q", most, got)
		}
	}
	calls := 0
	all(func(string, api.Value) bool { calls++; return false })
	if calls != 1 {
		t.Errorf("behind false it was called %d times", calls)
	}
}

// P14.4: All nested, one within itself and within another.
func TestAllNested(t *testing.T) {
	s := made(t)
	one, other := s.All(0), s.All(5)
	var got []string
	for a := range one {
		for b := range one {
			if a == "c" {
				break
			}
			got = append(got, a+b)
		}
		for b, v := range other {
			got = append(got, a+b+show(v))
		}
	}
	is(t, "nested", strings.Join(got, " "), "aa ab ac aax acz ba bb bc bax bcz cax ccz")
}

// P14.4: All goes over what was there when it was called, whatever is done to the space ahead of going and while it goes.
func TestAllMeanwhile(t *testing.T) {
	for what, do := range map[string]func(s *Space){
		"nothing":      func(s *Space) {},
		"Put new":      func(s *Space) { put(t, s, "aa", "new", 0); put(t, s, "zz", "new", 0) },
		"Put again":    func(s *Space) { put(t, s, "a", "new", 0); put(t, s, "b", "new", 9); put(t, s, "c", "new", 1) },
		"Put lists":    func(s *Space) { s.Put("a", aList("new"), 0); s.Put("c", aSet("new"), 0) },
		"Drop":         func(s *Space) { s.Drop("a"); s.Drop("b"); s.Drop("c") },
		"SetDue":       func(s *Space) { s.SetDue("a", 1); s.SetDue("b", 1); s.SetDue("c", 0) },
		"Clear":        func(s *Space) { s.Clear() },
		"Mark, Back":   func(s *Space) { s.Mark(); put(t, s, "a", "new", 0); s.Drop("b"); s.Back() },
		"Mark, Keep":   func(s *Space) { s.Mark(); put(t, s, "a", "new", 0); s.Drop("b"); s.Keep() },
		"Load nothing": func(s *Space) { s.Load(nil) },
	} {
		s := made(t)
		all := s.All(4)
		late := s.All(5)
		var got []string
		for key, v := range all {
			do(s)
			got = append(got, key+"="+show(v))
		}
		is(t, what+", while it goes", strings.Join(got, " "), "a=x b=y c=z")
		got = nil
		for key, v := range late {
			got = append(got, key+"="+show(v))
		}
		is(t, what+", ahead of going", strings.Join(got, " "), "a=x c=z")
		got = nil
		for key, v := range all {
			got = append(got, key+"="+show(v))
		}
		is(t, what+", again", strings.Join(got, " "), "a=x b=y c=z")
	}
}

// R5, P14.9: what is told does not hang on a map's order: many keys, told again and again, and by another space that was given the same.
func TestAnyOrder(t *testing.T) {
	one, other := New(), New()
	one.Mark()
	other.Mark()
	for i := range 300 {
		key := fmt.Sprint(i * 7 % 300)
		put(t, one, key, "v", i%11)
		put(t, other, key, "v", i%11)
	}
	for range 5 {
		for _, now := range []int{0, 5, 11} {
			if !slices.Equal(one.Keys(now), other.Keys(now)) || !slices.Equal(one.Stale(now, 50), other.Stale(now, 50)) || gone(one, now) != gone(other, now) || !slices.IsSorted(one.Keys(now)) {
				t.Fatalf("at %d: not the same", now)
			}
		}
		if told(one) != told(other) || changed(one) != changed(other) || one.Bytes() != other.Bytes() || !slices.IsSorted(one.Touched()) || len(one.Touched()) != 300 {
			t.Fatal("not the same")
		}
	}
}
