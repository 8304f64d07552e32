package space

import (
	"fmt"
	"math"
	"math/rand"
	"slices"
	"strings"
	"testing"

	"covenant/api"
	"covenant/value"
)

// call is one call that may change a space.
type call struct {
	what string
	key  string
	v    api.Value
	due  int
	list []api.Entry
}

func (c call) String() string {
	return fmt.Sprintf("%s(%q %s %d %s)", c.what, c.key, show(c.v), c.due, row(c.list))
}

// do is the call of a space, and all that it answers.
func do(s *Space, c call) string {
	switch c.what {
	case "put":
		return fmt.Sprint(s.Put(c.key, c.v, c.due))
	case "drop":
		return fmt.Sprint(s.Drop(c.key))
	case "due":
		return fmt.Sprint(s.SetDue(c.key, c.due))
	case "clear":
		return fmt.Sprint(s.Clear())
	case "mark":
		return fmt.Sprint(s.Mark())
	case "back":
		return fmt.Sprint(s.Back())
	case "keep":
		return fmt.Sprint(s.Keep())
	}
	return fmt.Sprint(s.Load(c.list))
}

// model is a space by the chapter's words, told another way: a list of entries in no order, of which a mark keeps all, and whose keys are held against one another.
type model struct {
	list    []api.Entry
	counter uint64
	ahead   *model
	changes []api.Effect
	touched []string
}

func (m *model) find(key string) int {
	return slices.IndexFunc(m.list, func(e api.Entry) bool { return e.Key == key })
}

// touch counts, and notes a change of a key.
func (m *model) touch(c api.Effect, keys ...string) {
	m.counter += uint64(len(keys))
	m.changes = append(m.changes, c)
	m.touched = append(m.touched, keys...)
}

func (m *model) put(key string, v api.Value, due int) api.Errno {
	if e := value.Check(v); e != 0 {
		return e
	}
	if due < 0 || due > 9007199254740992 {
		return 70
	}
	m.touch(api.Effect{Kind: 1, Key: key, Value: v, Due: due}, key)
	if at := m.find(key); at >= 0 {
		m.list = slices.Delete(m.list, at, at+1)
	}
	m.list = append(m.list, api.Entry{Key: key, Value: v, Due: due, Version: m.counter})
	return 0
}

func (m *model) drop(key string) bool {
	at := m.find(key)
	if at < 0 {
		return false
	}
	m.touch(api.Effect{Kind: 2, Key: key}, key)
	m.list = slices.Delete(m.list, at, at+1)
	return true
}

func (m *model) setDue(key string, due int) bool {
	at := m.find(key)
	if at < 0 || due < 0 || due > 9007199254740992 {
		return false
	}
	m.touch(api.Effect{Kind: 3, Key: key, Due: due}, key)
	m.list[at].Due, m.list[at].Version = due, m.counter
	return true
}

func (m *model) clear() int {
	n := len(m.list)
	if n > 0 {
		var keys []string
		for _, e := range m.list {
			keys = append(keys, e.Key)
		}
		m.touch(api.Effect{Kind: 4}, keys...)
		m.list = nil
	}
	return n
}

func (m *model) mark() api.Errno {
	if m.ahead != nil {
		return 140
	}
	m.ahead = &model{list: slices.Clone(m.list), counter: m.counter}
	m.changes, m.touched = nil, nil
	return 0
}

func (m *model) back() api.Errno {
	if m.ahead == nil {
		return 140
	}
	*m = *m.ahead
	return 0
}

func (m *model) keep() api.Errno {
	if m.ahead == nil {
		return 140
	}
	m.ahead = nil
	return 0
}

func (m *model) load(l []api.Entry) api.Errno {
	if m.ahead != nil {
		return 140
	}
	other := &model{}
	for i, e := range l {
		if i > 0 && strings.Compare(l[i-1].Key, e.Key) >= 0 || (&model{}).put(e.Key, e.Value, e.Due) != 0 || e.Version == 0 || e.Version > 4611686018427387904 {
			return 141
		}
		other.list = append(other.list, e)
		if e.Version > other.counter {
			other.counter = e.Version
		}
	}
	*m = *other
	return 0
}

func (m *model) do(c call) string {
	switch c.what {
	case "put":
		return fmt.Sprint(m.put(c.key, c.v, c.due))
	case "drop":
		return fmt.Sprint(m.drop(c.key))
	case "due":
		return fmt.Sprint(m.setDue(c.key, c.due))
	case "clear":
		return fmt.Sprint(m.clear())
	case "mark":
		return fmt.Sprint(m.mark())
	case "back":
		return fmt.Sprint(m.back())
	case "keep":
		return fmt.Sprint(m.keep())
	}
	return fmt.Sprint(m.load(c.list))
}

// sorted is some of the entries, by an order: each by how many others stand ahead of it.
func (m *model) sorted(wanted func(e api.Entry) bool, ahead func(a, b api.Entry) bool) []api.Entry {
	var some []api.Entry
	for _, e := range m.list {
		if wanted(e) {
			some = append(some, e)
		}
	}
	out := make([]api.Entry, len(some))
	for _, e := range some {
		at := 0
		for _, other := range some {
			if ahead(other, e) {
				at++
			}
		}
		out[at] = e
	}
	return out
}

func byKey(a, b api.Entry) bool { return a.Key < b.Key }

func byDue(a, b api.Entry) bool { return a.Due < b.Due || a.Due == b.Due && a.Key < b.Key }

func isOver(e api.Entry, now int) bool { return e.Due != 0 && !(e.Due > now) }

func keysOf(l []api.Entry) []string {
	var keys []string
	for _, e := range l {
		keys = append(keys, e.Key)
	}
	return keys
}

// sameEntries says whether two lists of entries are the same.
func sameEntries(a, b []api.Entry) bool {
	return slices.EqualFunc(a, b, func(a, b api.Entry) bool {
		return a.Key == b.Key && a.Due == b.Due && a.Version == b.Version && value.Same(a.Value, b.Value)
	})
}

func sameEffects(a, b []api.Effect) bool {
	return slices.EqualFunc(a, b, func(a, b api.Effect) bool {
		return a.Kind == b.Kind && a.Key == b.Key && a.Due == b.Due && value.Same(a.Value, b.Value)
	})
}

// same fails unless a space tells what the model tells, of all keys and of these, at these ticks.
func (m *model) same(t *testing.T, s *Space, keys []string, ticks []int, script any) {
	t.Helper()
	all := m.sorted(func(api.Entry) bool { return true }, byKey)
	if got := s.Entries(); !sameEntries(got, all) || s.Counter() != m.counter || s.Bytes() != modelBytes(all) {
		t.Fatalf("%v: %s, not %s/%d; Bytes %q", script, told(s), row(all), m.counter, s.Bytes())
	}
	var changes []api.Effect
	var touched []string
	if m.ahead != nil {
		changes, touched = m.changes, slices.Compact(slices.Sorted(slices.Values(m.touched)))
	}
	if !sameEffects(s.Changes(), changes) || !slices.Equal(s.Touched(), touched) {
		t.Fatalf("%v: %s, not %v, %q", script, changed(s), changes, touched)
	}
	for _, now := range ticks {
		m.sameAt(t, s, now, script)
		for _, key := range keys {
			m.sameKey(t, s, key, now, script)
		}
	}
}

func (m *model) sameAt(t *testing.T, s *Space, now int, script any) {
	t.Helper()
	seen := m.sorted(func(e api.Entry) bool { return !isOver(e, now) }, byKey)
	if !slices.Equal(s.Keys(now), keysOf(seen)) || s.Len(now) != len(seen) {
		t.Fatalf("%v: Keys(%d) %q, Len %d, not those of %s", script, now, s.Keys(now), s.Len(now), row(seen))
	}
	var walk []api.Entry
	for key, v := range s.All(now) {
		walk = append(walk, api.Entry{Key: key, Value: v, Due: seen[len(walk)].Due, Version: seen[len(walk)].Version})
	}
	if !sameEntries(walk, seen) {
		t.Fatalf("%v: All(%d) %s, not %s", script, now, row(walk), row(seen))
	}
	stale := keysOf(m.sorted(func(e api.Entry) bool { return isOver(e, now) }, byDue))
	for _, most := range []int{-1, 0, 1, 2, math.MaxInt} {
		if got := s.Stale(now, most); !slices.Equal(got, stale[:min(len(stale), max(0, most))]) {
			t.Fatalf("%v: Stale(%d, %d) %q, not of %q", script, now, most, got, stale)
		}
	}
}

func (m *model) sameKey(t *testing.T, s *Space, key string, now int, script any) {
	t.Helper()
	var e api.Entry
	is := false
	if at := m.find(key); at >= 0 {
		e, is = m.list[at], true
	}
	if s.Version(key) != e.Version || s.Over(key, now) != (is && isOver(e, now)) {
		t.Fatalf("%v: Version(%q) %d, Over at %d %t, not of %v", script, key, s.Version(key), now, s.Over(key, now), e)
	}
	if is && isOver(e, now) {
		e, is = api.Entry{}, false
	}
	v, ok := s.Get(key, now)
	due, has := s.Due(key, now)
	if ok != is || has != is || due != e.Due || !value.Same(v, e.Value) {
		t.Fatalf("%v: %q at %d: Get %s %t, Due %d %t, not of %v", script, key, now, show(v), ok, due, has, e)
	}
}

// few is calls about two keys, of each kind, those too that are refused.
func few() []call {
	return []call{
		{what: "put", key: "a", v: aText("x")},
		{what: "put", key: "a", v: aList("x", "y"), due: 2},
		{what: "put", key: "b", v: aSet("x", "y"), due: 1},
		{what: "put", key: "b", v: aList(), due: 1},
		{what: "drop", key: "a"},
		{what: "drop", key: "b"},
		{what: "due", key: "a", due: 1},
		{what: "due", key: "b", due: 0},
		{what: "due", key: "b", due: top + 1},
		{what: "clear"},
		{what: "mark"},
		{what: "back"},
		{what: "keep"},
		{what: "load", list: []api.Entry{entry("a", "l", 1, 5), entry("c", "l", 0, 2)}},
		{what: "load", list: []api.Entry{entry("c", "l", 1, 5), entry("a", "l", 0, 2)}},
	}
}

// run does a script on a new space and on the model, and fails where they answer otherwise.
func run(t *testing.T, script []call) (*Space, *model) {
	t.Helper()
	s, m := New(), &model{}
	for _, c := range script {
		if got, want := do(s, c), m.do(c); got != want {
			t.Fatalf("%v: %s, not %s", script, got, want)
		}
	}
	return s, m
}

// P14.1 to P14.8: every script of few calls, from nothing and from keys with a mark.
func TestShortScripts(t *testing.T) {
	var walk func(script []call, left int)
	walk = func(script []call, left int) {
		s, m := run(t, script)
		m.same(t, s, []string{"a", "b", "c"}, []int{0, 1, 2}, script)
		if left == 0 {
			return
		}
		for _, c := range few() {
			walk(append(script[:len(script):len(script)], c), left-1)
		}
	}
	walk(nil, 4)
	calls := few()
	walk([]call{calls[0], calls[2], calls[10]}, 3)
}

// P14.9: behind every script with a mark, its changes, done on a space that was given the calls ahead of the mark, make the same of it; and Back makes what these calls made.
func TestChangesOfScripts(t *testing.T) {
	var walk func(ahead, behind []call, left int)
	walk = func(ahead, behind []call, left int) {
		s, _ := run(t, slices.Concat(ahead, []call{{what: "mark"}}, behind))
		again, _ := run(t, ahead)
		back, _ := run(t, ahead)
		for _, c := range s.Changes() {
			done(again, c)
		}
		if told(again) != told(s) || !slices.Equal(again.Stale(2, 9), s.Stale(2, 9)) {
			t.Fatalf("%v, %v: done again %s, not %s", ahead, behind, told(again), told(s))
		}
		s.Back()
		if whole(s) != whole(back) {
			t.Fatalf("%v, %v: Back %s, not %s", ahead, behind, told(s), told(back))
		}
		if left == 0 {
			return
		}
		for _, c := range few()[:10] {
			walk(ahead, append(behind[:len(behind):len(behind)], c), left-1)
		}
	}
	calls := few()
	for _, ahead := range [][]call{nil, {calls[0]}, {calls[1], calls[2]}, {calls[13], calls[2]}, {calls[0], calls[2], calls[4]}} {
		walk(ahead, nil, 3)
	}
}

// some is a call about one of many keys, with a value of any kind; now and then one that is refused.
func some(r *rand.Rand, keys []string) call {
	c := call{what: "put", key: keys[r.Intn(len(keys))], due: r.Intn(6)}
	values := append(kinds(), aText(""), aList(fmt.Sprint(r.Intn(9))), aText(fmt.Sprint(r.Intn(99))))
	c.v = values[r.Intn(len(values))]
	switch r.Intn(24) {
	case 0:
		c.due = []int{-1, top, top + 1, math.MinInt, math.MaxInt}[r.Intn(5)]
	case 1:
		c.v = []api.Value{{}, aList(), aSet("b", "a"), {Kind: 9}}[r.Intn(4)]
	case 2:
		c = call{what: "clear"}
	case 3:
		c = call{what: "load"}
		for i, key := range slices.Sorted(slices.Values(keys)) {
			if r.Intn(2) == 0 {
				c.list = append(c.list, api.Entry{Key: key, Value: values[r.Intn(len(values))], Due: r.Intn(6), Version: uint64(i*7%5 + r.Intn(12))})
			}
		}
	case 4, 5, 6:
		c = call{what: "mark"}
	case 7, 8:
		c = call{what: "back"}
	case 9:
		c = call{what: "keep"}
	case 10, 11, 12, 13:
		c.what = "due"
	case 14, 15, 16, 17:
		c.what = "drop"
	}
	return c
}

// Long scripts about several keys, told behind each call.
func TestLongScripts(t *testing.T) {
	keys := []string{"", "\x00", "a", "a\x00", "ab", "b", "\x7f", "\x80", "\xff", "A"}
	for seed := range int64(40) {
		r := rand.New(rand.NewSource(seed))
		s, m := New(), &model{}
		for step := range 200 {
			c := some(r, keys)
			if got, want := do(s, c), m.do(c); got != want {
				t.Fatalf("seed %d, step %d, %v: %s, not %s", seed, step, c, got, want)
			}
			m.same(t, s, append(keys, "q"), []int{math.MinInt, -1, 0, 1, 3, 5, 6, math.MaxInt}, fmt.Sprintf("seed %d, step %d, %v", seed, step, c))
		}
	}
}

// Long scripts about many keys, so that several of one deadline stand far apart, and a mark keeps many.
func TestManyKeys(t *testing.T) {
	var keys []string
	for i := range 80 {
		keys = append(keys, fmt.Sprint(i))
	}
	for seed := range int64(6) {
		r := rand.New(rand.NewSource(seed))
		s, m := New(), &model{}
		for step := range 600 {
			c := some(r, keys)
			if c.what == "clear" && r.Intn(4) > 0 {
				continue
			}
			if got, want := do(s, c), m.do(c); got != want {
				t.Fatalf("seed %d, step %d, %v: %s, not %s", seed, step, c, got, want)
			}
			if step%5 == 0 {
				m.same(t, s, keys[:3], []int{0, 3, 5}, fmt.Sprintf("seed %d, step %d, %v", seed, step, c))
			}
		}
	}
}
