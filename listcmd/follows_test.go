package listcmd

import (
	"math/rand"
	"slices"
	"strings"
	"testing"

	"covenant/api"
	"covenant/space"
)

// laid is the elements of an array of bulks.
func laid(r api.Reply) []string {
	var l []string
	for _, x := range r.List {
		l = append(l, x.Text)
	}
	return l
}

// rows is the short rows of elements.
func rows() [][]string {
	all := [][]string{{"a"}, {"b"}, {""}}
	for i := 0; len(all[i]) < 4; i++ {
		for _, element := range []string{"a", "b", ""} {
			all = append(all, append(slices.Clone(all[i]), element))
		}
	}
	return all
}

// request is a command's words with elements behind.
func request(line string, elements ...string) []string { return append(words(line), elements...) }

// 19.7: what RPUSH laid, in one request or in several, LRANGE 0 -1 tells; what LPUSH laid it tells the other way round.
func TestLaidIsTold(t *testing.T) {
	for _, row := range rows() {
		s := space.New()
		mustRun(t, s, 0, request("rpush k", row...)...)
		mustRun(t, s, 0, request("lpush back", row...)...)
		for _, element := range row {
			mustRun(t, s, 0, "rpush", "single", element)
		}
		turned := slices.Clone(row)
		slices.Reverse(turned)
		for key, want := range map[string][]string{"k": row, "single": row, "back": turned} {
			if got := laid(mustRun(t, s, 0, "lrange", key, "0", "-1")); !slices.Equal(got, want) {
				t.Errorf("%s: %q, not %q", key, got, want)
			}
		}
	}
}

// 19.7: what is pushed and popped at one end comes back the other way round, and leaves what was there.
func TestPushAndPop(t *testing.T) {
	for _, row := range rows() {
		turned := slices.Clone(row)
		slices.Reverse(turned)
		for _, end := range []string{"l", "r"} {
			for _, key := range []string{"l", "late", "q"} {
				s, other := begin(), begin()
				mustRun(t, s, 10, request(end+"push "+key, row...)...)
				mustRun(t, other, 10, request(end+"push "+key, row...)...)
				several := laid(mustRun(t, s, 10, end+"pop", key, string(rune('0'+len(row)))))
				var single []string
				for range row {
					single = append(single, mustRun(t, other, 10, end+"pop", key).Text)
				}
				if !slices.Equal(several, turned) || !slices.Equal(single, turned) {
					t.Errorf("%s of %q at %s: %q, %q", end, row, key, several, single)
				}
				was, _ := begin().Get(key, 10)
				for _, x := range []*space.Space{s, other} {
					if is, _ := x.Get(key, 10); !slices.Equal(is.List, was.List) {
						t.Errorf("%s of %q: %s was %q, is %q", end, row, key, was.List, is.List)
					}
				}
			}
		}
	}
}

// all is the elements of all lists, sorted.
func all(s *space.Space, now int) string {
	var l []string
	for _, v := range s.All(now) {
		l = append(l, v.List...)
	}
	slices.Sort(l)
	return strings.Join(l, ",")
}

// 19.7: LMOVE and RPOPLPUSH neither make nor lose an element, and taking it back the same way leaves the lists as they were.
func TestMovesKeepAll(t *testing.T) {
	for _, from := range []string{"left", "right"} {
		for _, to := range []string{"left", "right"} {
			for _, keys := range [][2]string{{"l", "late"}, {"late", "l"}, {"l", "l"}, {"one", "l"}, {"one", "q"}, {"one", "one"}, {"l", "q"}} {
				s := begin()
				was := all(s, 10)
				mustRun(t, s, 10, "lmove", keys[0], keys[1], from, to)
				if all(s, 10) != was {
					t.Errorf("lmove %q %s %s: %s became %s", keys, from, to, was, all(s, 10))
				}
				mustRun(t, s, 10, "lmove", keys[1], keys[0], to, from)
				for _, key := range keys {
					before, _ := begin().Get(key, 10)
					if after, _ := s.Get(key, 10); !slices.Equal(before.List, after.List) {
						t.Errorf("lmove %q %s %s and back: %s is %q", keys, from, to, key, after.List)
					}
				}
			}
		}
	}
	r := rand.New(rand.NewSource(1))
	s := space.New()
	mustRun(t, s, 0, "rpush", "a", "1", "2", "3", "4", "5")
	mustRun(t, s, 0, "rpush", "b", "6", "7", "8", "9")
	was := all(s, 0)
	for range 2000 {
		pick := func(l ...string) string { return l[r.Intn(len(l))] }
		line := []string{"lmove", pick("a", "b", "c"), pick("a", "b", "c"), pick("left", "right"), pick("left", "right")}
		if r.Intn(5) == 0 {
			line = append([]string{"rpoplpush"}, line[1:3]...)
		}
		mustRun(t, s, 0, line...)
		if all(s, 0) != was {
			t.Fatalf("%q: %s became %s", line, was, all(s, 0))
		}
	}
}
