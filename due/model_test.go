package due

import (
	"cmp"
	"fmt"
	"math"
	"math/rand"
	"slices"
	"testing"

	"covenant/api"
)

// call is one call that may change an index; its key is told by its place among the keys.
type call struct {
	what   string
	at     int
	n, now int
}

// do is the call of an index, and all that it answers.
func (k keys[K]) do(x *Index[K], c call) string {
	switch c.what {
	case "set":
		return fmt.Sprint(x.Set(k[c.at], c.n))
	case "drop":
		return fmt.Sprint(x.Drop(k[c.at]))
	}
	return fmt.Sprintf("%#v", append([]K{}, x.Take(c.now, c.n)...))
}

// model is an index by the chapter's words, told another way: a list of pairs in no order, of which the first is found by looking at all.
type model[K cmp.Ordered] struct {
	list []pair[K]
}

func (m *model[K]) find(key K) int {
	return slices.IndexFunc(m.list, func(p pair[K]) bool { return p.key == key })
}

func (m *model[K]) set(key K, tick int) api.Errno {
	if tick < 0 || tick > 1<<53 {
		return 70
	}
	m.drop(key)
	m.list = append(m.list, pair[K]{key, tick})
	return 0
}

func (m *model[K]) drop(key K) bool {
	at := m.find(key)
	if at < 0 {
		return false
	}
	m.list = slices.Delete(m.list, at, at+1)
	return true
}

// sorted is the pairs in their order: each by how many others stand ahead of it.
func (m *model[K]) sorted() []pair[K] {
	out := make([]pair[K], len(m.list))
	for _, p := range m.list {
		ahead := 0
		for _, q := range m.list {
			if q.tick < p.tick || q.tick == p.tick && q.key < p.key {
				ahead++
			}
		}
		out[ahead] = p
	}
	return out
}

func (m *model[K]) peek(now, most int) []K {
	var out []K
	for _, p := range m.sorted() {
		if len(out) < most && p.tick <= now {
			out = append(out, p.key)
		}
	}
	return out
}

func (m *model[K]) do(k keys[K], c call) string {
	switch c.what {
	case "set":
		return fmt.Sprint(m.set(k[c.at], c.n))
	case "drop":
		return fmt.Sprint(m.drop(k[c.at]))
	}
	out := m.peek(c.now, c.n)
	for _, key := range out {
		m.drop(key)
	}
	return fmt.Sprintf("%#v", append([]K{}, out...))
}

// same fails unless an index tells what the model tells.
func (k keys[K]) same(t *testing.T, x *Index[K], m *model[K], script any) {
	t.Helper()
	want := m.sorted()
	if got := pairs(x); !slices.Equal(got, want) || x.Len() != len(want) {
		t.Fatalf("%v: All %v, Len %d, not %v", script, got, x.Len(), want)
	}
	first, tick, ok := x.Next()
	if got := (pair[K]{first, tick}); ok != (len(want) > 0) || ok && got != want[0] || !ok && got != (pair[K]{}) {
		t.Fatalf("%v: Next %v %t, not the first of %v", script, got, ok, want)
	}
	for _, key := range k {
		at := m.find(key)
		tick, ok := x.Due(key)
		if ok != (at >= 0) || ok && tick != m.list[at].tick || !ok && tick != 0 {
			t.Fatalf("%v: Due(%v): %d %t of %v", script, key, tick, ok, want)
		}
	}
	for _, now := range []int{0, 1, 2, math.MaxInt} {
		for most := range 4 {
			if got := x.Peek(now, most); !slices.Equal(got, m.peek(now, most)) {
				t.Fatalf("%v: Peek(%d, %d): %v of %v", script, now, most, got, want)
			}
		}
	}
}

// P7.1 to 7.3, 7.5: every script of few calls about three keys.
func TestShortScripts(t *testing.T) { over(t, tests.scripts) }

func (k keys[K]) scripts(t *testing.T) {
	calls := []call{{what: "take", now: 1, n: 1}, {what: "take", now: 2, n: 2}, {what: "take", now: 0, n: 9}, {what: "set", at: 1, n: -1}}
	for at := range 3 {
		calls = append(calls, call{what: "set", at: at, n: 1}, call{what: "set", at: at, n: 2}, call{what: "drop", at: at})
	}
	var walk func(script []call, left int)
	walk = func(script []call, left int) {
		x, m := New[K](), &model[K]{}
		for _, c := range script {
			if got, want := k.do(x, c), m.do(k, c); got != want {
				t.Fatalf("%v: %s, not %s", script, got, want)
			}
		}
		k.same(t, x, m, script)
		for _, c := range calls {
			if left > 0 {
				walk(append(script[:len(script):len(script)], c), left-1)
			}
		}
	}
	walk(nil, 4)
}

// Long scripts over few keys, which are set, moved and dropped again and again.
func TestLongScripts(t *testing.T) { over(t, tests.longScripts) }

func (k keys[K]) longScripts(t *testing.T) {
	for seed := range int64(60) {
		r := rand.New(rand.NewSource(seed))
		random(t, k, r, 100)
	}
}

// Long scripts over many keys, so that the row has several levels.
func TestManyKeys(t *testing.T) {
	for seed := range int64(20) {
		r := rand.New(rand.NewSource(seed))
		var numbers keys[int]
		var texts keys[string]
		for i := range 60 {
			numbers = append(numbers, i*7%60)
			texts = append(texts, fmt.Sprint(i))
		}
		random(t, numbers, r, 300)
		random(t, texts, r, 300)
	}
}

// random runs so many calls, of which most are Sets, on an index and on the model.
func random[K cmp.Ordered](t *testing.T, k keys[K], r *rand.Rand, steps int) {
	t.Helper()
	x, m := New[K](), &model[K]{}
	for step := range steps {
		c := call{what: "set", at: r.Intn(len(k)), n: r.Intn(len(k))}
		switch r.Intn(12) {
		case 0:
			c.n = []int{-1, 0, api.MaxTick, api.MaxTick + 1}[r.Intn(4)]
		case 1, 2, 3:
			c.what = "drop"
		case 4:
			c.what, c.now, c.n = "take", r.Intn(len(k)), r.Intn(5)-1
		}
		if got, want := k.do(x, c), m.do(k, c); got != want {
			t.Fatalf("step %d, %v: %s, not %s", step, c, got, want)
		}
		k.same(t, x, m, step)
	}
}
