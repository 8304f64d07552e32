package due

import (
	"cmp"
	"math"
	"slices"
	"testing"

	"covenant/api"
)

// over runs one test over keys of several types, six rising ones of each.
func over(t *testing.T, run func(tests, *testing.T)) {
	t.Run("texts", func(t *testing.T) { run(keys[string]{"", "\x00", "a", "a\x00", "b", "\xff"}, t) })
	t.Run("numbers", func(t *testing.T) { run(keys[int]{math.MinInt, -1, 0, 1, 10, math.MaxInt}, t) })
	t.Run("bytes", func(t *testing.T) { run(keys[uint8]{0, 1, 2, 127, 128, 255}, t) })
	t.Run("floats", func(t *testing.T) { run(keys[float64]{math.Inf(-1), -1.5, 0, 0.1, 1, math.Inf(1)}, t) })
	t.Run("names", func(t *testing.T) { run(keys[name]{"", "\x00", "a", "a\x00", "b", "\xff"}, t) })
}

// name is a type of texts that is not string.
type name string

// keys are those that the tests hand in.
type keys[K cmp.Ordered] []K

// tests are what is tested of an index, whatever its keys are.
type tests interface {
	set(t *testing.T)
	refused(t *testing.T)
	drop(t *testing.T)
	order(t *testing.T)
	next(t *testing.T)
	peekAndTake(t *testing.T)
	takeBitByBit(t *testing.T)
	all(t *testing.T)
	allMeanwhile(t *testing.T)
	onNil(t *testing.T)
	newMemory(t *testing.T)
	letGo(t *testing.T)
	scripts(t *testing.T)
	longScripts(t *testing.T)
}

// pair is a key and a tick that All goes over.
type pair[K cmp.Ordered] struct {
	key  K
	tick int
}

// pairs is all that All goes over.
func pairs[K cmp.Ordered](x *Index[K]) []pair[K] {
	var list []pair[K]
	for k, tick := range x.All() {
		list = append(list, pair[K]{k, tick})
	}
	return list
}

// made is an index of the keys with these ticks, set in a mixed order; a tick below 0 leaves its key out.
func (k keys[K]) made(t *testing.T, ticks ...int) *Index[K] {
	t.Helper()
	x := New[K]()
	for i := range ticks {
		at := (i*5 + 3) % len(ticks)
		if len(ticks)%5 == 0 {
			at = len(ticks) - 1 - i
		}
		if ticks[at] < 0 {
			continue
		}
		if e := x.Set(k[at], ticks[at]); e != api.OK {
			t.Fatalf("Set(%v, %d): %d", k[at], ticks[at], e)
		}
	}
	return x
}

// holds fails unless the keys have just these ticks; one below 0 says that a key is not there.
func (k keys[K]) holds(t *testing.T, x *Index[K], ticks ...int) {
	t.Helper()
	count := 0
	for i, want := range ticks {
		there := want >= 0
		if there {
			count++
		} else {
			want = 0
		}
		if tick, ok := x.Due(k[i]); tick != want || ok != there {
			t.Errorf("Due(%v): %d %t, not %d %t", k[i], tick, ok, want, there)
		}
	}
	if x.Len() != count || len(pairs(x)) != count {
		t.Errorf("Len: %d, All: %v; there are %d", x.Len(), pairs(x), count)
	}
}

// lists fails unless a call told these of the keys.
func (k keys[K]) lists(t *testing.T, what string, got []K, want ...int) {
	t.Helper()
	var list []K
	for _, at := range want {
		list = append(list, k[at])
	}
	if !slices.Equal(got, list) {
		t.Errorf("%s: %v, not %v", what, got, list)
	}
}

// P7.1: New gives an index of nothing, each time another one.
func TestNew(t *testing.T) {
	x, y := New[string](), New[string]()
	if x == nil || x.Len() != 0 {
		t.Fatalf("New: Len %d", x.Len())
	}
	if tick, ok := x.Due(""); tick != 0 || ok {
		t.Errorf("Due: %d %t", tick, ok)
	}
	if k, tick, ok := x.Next(); k != "" || tick != 0 || ok {
		t.Errorf("Next: %q %d %t", k, tick, ok)
	}
	if x.Drop("") || len(x.Peek(api.MaxTick, 9)) != 0 || len(x.Take(api.MaxTick, 9)) != 0 || len(pairs(x)) != 0 {
		t.Error("an index of nothing has something")
	}
	x.Set("a", 1)
	if x.Len() != 1 || y.Len() != 0 || New[string]().Len() != 0 {
		t.Errorf("Len: %d %d", x.Len(), y.Len())
	}
}

// An index that New did not give, but that is not nil, is of nothing too.
func TestZeroIndex(t *testing.T) {
	var x Index[string]
	if x.Drop("a") || x.Len() != 0 || len(x.Take(9, 9)) != 0 || len(pairs(&x)) != 0 {
		t.Error("a zero index has something")
	}
	if e := x.Set("a", 1); e != api.OK || x.Len() != 1 {
		t.Errorf("Set: %d, Len %d", e, x.Len())
	}
}

// P7.1: Set gives a tick, in place of what it was; Due and Len tell it.
func TestSet(t *testing.T) { over(t, tests.set) }

func (k keys[K]) set(t *testing.T) {
	x := New[K]()
	for _, tick := range []int{0, 1, api.MaxTick - 1, api.MaxTick, 5, 5, 0} {
		if e := x.Set(k[0], tick); e != api.OK {
			t.Errorf("Set(%v, %d): %d", k[0], tick, e)
		}
		k.holds(t, x, tick, -1)
	}
	for _, tick := range []int{api.MaxTick, 0, 7} {
		if e := x.Set(k[1], tick); e != api.OK {
			t.Errorf("Set(%v, %d): %d", k[1], tick, e)
		}
		k.holds(t, x, 0, tick, -1)
	}
}

// P7.1, R2: a tick that is none is refused, and nothing is changed.
func TestSetRefused(t *testing.T) { over(t, tests.refused) }

func (k keys[K]) refused(t *testing.T) {
	x := k.made(t, 0, 5, api.MaxTick)
	was := pairs(x)
	for _, tick := range []int{math.MinInt, -api.MaxTick, -1, api.MaxTick + 1, 1 << 60, math.MaxInt} {
		for _, key := range k {
			if e := x.Set(key, tick); e != api.ErrTick {
				t.Errorf("Set(%v, %d): %d", key, tick, e)
			}
		}
	}
	k.holds(t, x, 0, 5, api.MaxTick, -1, -1, -1)
	if !slices.Equal(pairs(x), was) {
		t.Errorf("All: %v, not %v", pairs(x), was)
	}
}

// P7.1: Drop says whether a key was there, and it is there no more.
func TestDrop(t *testing.T) { over(t, tests.drop) }

func (k keys[K]) drop(t *testing.T) {
	for at := range k {
		ticks := []int{3, 0, 2, 2, api.MaxTick, -1}
		x := k.made(t, ticks...)
		if x.Drop(k[at]) != (ticks[at] >= 0) {
			t.Errorf("Drop(%v): %t", k[at], ticks[at] < 0)
		}
		ticks[at] = -1
		k.holds(t, x, ticks...)
		if x.Drop(k[at]) {
			t.Errorf("Drop(%v) again: true", k[at])
		}
		k.holds(t, x, ticks...)
		if e := x.Set(k[at], 4); e != api.OK {
			t.Errorf("Set(%v) behind Drop: %d", k[at], e)
		}
		ticks[at] = 4
		k.holds(t, x, ticks...)
	}
}

// P7.2: the order is by ticks, of one tick by keys, however the ticks were set; Peek, Take and All tell it.
func TestOrder(t *testing.T) { over(t, tests.order) }

func (k keys[K]) order(t *testing.T) {
	x := k.made(t, 4, 4, 4, 4, 4, 4)
	k.lists(t, "Peek of one tick", x.Peek(4, 9), 0, 1, 2, 3, 4, 5)
	x = k.made(t, 6, 5, 4, 3, 2, 1)
	k.lists(t, "Peek of falling ticks", x.Peek(6, 9), 5, 4, 3, 2, 1, 0)
	x = k.made(t, 9, 0, 9, api.MaxTick, 0, 9)
	want := []pair[K]{{k[1], 0}, {k[4], 0}, {k[0], 9}, {k[2], 9}, {k[5], 9}, {k[3], api.MaxTick}}
	if got := pairs(x); !slices.Equal(got, want) {
		t.Errorf("All: %v, not %v", got, want)
	}
	x.Set(k[3], 0)
	x.Set(k[1], 10)
	x.Drop(k[0])
	k.lists(t, "Peek", x.Peek(api.MaxTick, 9), 3, 4, 2, 5, 1)
	k.lists(t, "Take", x.Take(api.MaxTick, 9), 3, 4, 2, 5, 1)
}

// P7.2: Next is the first key with its tick, and takes nothing away; zero values, if there is none.
func TestNext(t *testing.T) { over(t, tests.next) }

func (k keys[K]) next(t *testing.T) {
	x := k.made(t, 7, 2, -1, 2, 0, 9)
	for _, at := range []int{4, 1, 3, 0, 5} {
		want, _ := x.Due(k[at])
		for range 2 {
			if key, tick, ok := x.Next(); key != k[at] || tick != want || !ok {
				t.Errorf("Next: %v %d %t, not %v %d", key, tick, ok, k[at], want)
			}
		}
		x.Drop(k[at])
	}
	if key, tick, ok := x.Next(); key != *new(K) || tick != 0 || ok {
		t.Errorf("Next of none: %v %d %t", key, tick, ok)
	}
	x.Set(k[5], api.MaxTick)
	if key, tick, ok := x.Next(); key != k[5] || tick != api.MaxTick || !ok {
		t.Errorf("Next: %v %d %t", key, tick, ok)
	}
}

// P7.2: Peek and Take with every count and every now; Peek leaves all as it was, and Take takes just what it tells.
func TestPeekAndTake(t *testing.T) { over(t, tests.peekAndTake) }

func (k keys[K]) peekAndTake(t *testing.T) {
	ticks := []int{5, 0, 5, 2, api.MaxTick, 2}
	order := []int{1, 3, 5, 0, 2, 4}
	for _, now := range []int{math.MinInt, -1, 0, 1, 2, 3, 4, 5, 6, api.MaxTick - 1, api.MaxTick, api.MaxTick + 1, math.MaxInt} {
		var over []int
		for _, at := range order {
			if ticks[at] <= now {
				over = append(over, at)
			}
		}
		for _, most := range []int{math.MinInt, -1, 0, 1, 2, 3, 4, 5, 6, 7, math.MaxInt} {
			want := over[:max(0, min(most, len(over)))]
			x := k.made(t, ticks...)
			was := pairs(x)
			k.lists(t, "Peek", x.Peek(now, most), want...)
			k.lists(t, "Peek again", x.Peek(now, most), want...)
			k.holds(t, x, ticks...)
			k.lists(t, "Take", x.Take(now, most), want...)
			left := slices.Clone(ticks)
			for _, at := range want {
				left[at] = -1
			}
			k.holds(t, x, left...)
			if got := pairs(x); !slices.Equal(got, was[len(want):]) {
				t.Errorf("behind Take(%d, %d): %v, not %v", now, most, got, was[len(want):])
			}
		}
	}
}

// P7.5: Take again and again with the same now is Peek of all at once; a key stands once at most.
func TestTakeBitByBit(t *testing.T) { over(t, tests.takeBitByBit) }

func (k keys[K]) takeBitByBit(t *testing.T) {
	for now := range 8 {
		for most := 1; most <= 7; most++ {
			x := k.made(t, 3, 3, 1, 7, 0, 3)
			for _, key := range k {
				x.Set(key, 5)
			}
			for i, tick := range []int{3, 3, 1, 7, 0, 3} {
				x.Set(k[i], tick)
			}
			want := x.Peek(now, x.Len())
			var got []K
			for bit := x.Take(now, most); len(bit) > 0; bit = x.Take(now, most) {
				got = append(got, bit...)
			}
			if !slices.Equal(got, want) {
				t.Errorf("Take(%d, %d) by bits: %v, not %v", now, most, got, want)
			}
			if x.Len() != len(k)-len(want) || len(x.Peek(now, 9)) != 0 {
				t.Errorf("behind Take(%d, %d): %v", now, most, pairs(x))
			}
			slices.Sort(got)
			if len(slices.Compact(got)) != len(want) {
				t.Errorf("Take(%d, %d) told a key twice: %v", now, most, want)
			}
		}
	}
}

// P7.3: All goes over keys and ticks in their order; it may be left early, gone over again and nested.
func TestAll(t *testing.T) { over(t, tests.all) }

func (k keys[K]) all(t *testing.T) {
	x := k.made(t, 2, 1, 2, 0, api.MaxTick, 1)
	want := []pair[K]{{k[3], 0}, {k[1], 1}, {k[5], 1}, {k[0], 2}, {k[2], 2}, {k[4], api.MaxTick}}
	all := x.All()
	for steps := range len(want) + 1 {
		var got []pair[K]
		for key, tick := range all {
			if len(got) == steps {
				break
			}
			got = append(got, pair[K]{key, tick})
		}
		if !slices.Equal(got, want[:steps]) {
			t.Errorf("%d steps: %v, not %v", steps, got, want[:steps])
		}
	}
	var outer []pair[K]
	for key, tick := range all {
		outer = append(outer, pair[K]{key, tick})
		var inner []pair[K]
		for key, tick := range all {
			if inner = append(inner, pair[K]{key, tick}); len(inner) == len(outer) {
				break
			}
		}
		if !slices.Equal(inner, outer) {
			t.Errorf("nested: %v, not %v", inner, outer)
		}
	}
	if !slices.Equal(outer, want) {
		t.Errorf("outer: %v, not %v", outer, want)
	}
	k.holds(t, x, 2, 1, 2, 0, api.MaxTick, 1)
}

// P7.3: what is done to the index has no part in what All goes over, at whatever step it is done, behind All and ahead of the first step too.
func TestAllMeanwhile(t *testing.T) { over(t, tests.allMeanwhile) }

func (k keys[K]) allMeanwhile(t *testing.T) {
	want := []pair[K]{{k[3], 0}, {k[1], 1}, {k[0], 2}, {k[2], 2}, {k[4], 8}}
	does := map[string]func(x *Index[K]){
		"Set":        func(x *Index[K]) { x.Set(k[1], 9) },
		"Set anew":   func(x *Index[K]) { x.Set(k[5], 0) },
		"Set of all": func(x *Index[K]) { k.setAll(x) },
		"Drop":       func(x *Index[K]) { x.Drop(k[0]) },
		"Take":       func(x *Index[K]) { x.Take(2, 3) },
		"Take all":   func(x *Index[K]) { x.Take(9, 9); x.Set(k[5], 1) },
	}
	for what, do := range does {
		for at := -1; at < len(want); at++ {
			x := k.made(t, 2, 1, 2, 0, 8)
			all := x.All()
			if at < 0 {
				do(x)
			}
			var got []pair[K]
			for key, tick := range all {
				if len(got) == at {
					do(x)
				}
				got = append(got, pair[K]{key, tick})
			}
			if !slices.Equal(got, want) {
				t.Errorf("%s at step %d: %v, not %v", what, at, got, want)
			}
			done := k.made(t, 2, 1, 2, 0, 8)
			if do(done); !slices.Equal(pairs(x), pairs(done)) {
				t.Errorf("%s at step %d: the index is %v, not %v", what, at, pairs(x), pairs(done))
			}
			again := []pair[K]{}
			for key, tick := range all {
				again = append(again, pair[K]{key, tick})
			}
			if !slices.Equal(again, want) {
				t.Errorf("%s at step %d, again: %v, not %v", what, at, again, want)
			}
		}
	}
}

// setAll turns the order round.
func (k keys[K]) setAll(x *Index[K]) {
	for i, key := range k {
		x.Set(key, 100-i)
	}
}

// P7.4, R1: a nil index refuses Set, goes over nothing, and else answers zero values.
func TestNil(t *testing.T) { over(t, tests.onNil) }

func (k keys[K]) onNil(t *testing.T) {
	var x *Index[K]
	for _, tick := range []int{math.MinInt, -1, 0, 1, api.MaxTick, api.MaxTick + 1} {
		if e := x.Set(k[1], tick); e != api.ErrTick {
			t.Errorf("Set(%d): %d", tick, e)
		}
	}
	if tick, ok := x.Due(k[1]); tick != 0 || ok || x.Drop(k[1]) || x.Len() != 0 {
		t.Errorf("Due: %d %t, Len %d", tick, ok, x.Len())
	}
	if key, tick, ok := x.Next(); key != *new(K) || tick != 0 || ok {
		t.Errorf("Next: %v %d %t", key, tick, ok)
	}
	if len(x.Peek(math.MaxInt, math.MaxInt)) != 0 || len(x.Take(math.MaxInt, math.MaxInt)) != 0 {
		t.Error("Peek or Take told a key")
	}
	for key := range x.All() {
		t.Errorf("All: %v", key)
	}
}

// The chapter's examples.
func TestExamples(t *testing.T) {
	k := keys[string]{"a", "b", "c"}
	x := New[string]()
	x.Set("b", 5)
	x.Set("a", 5)
	x.Set("c", 2)
	if key, tick, ok := x.Next(); key != "c" || tick != 2 || !ok {
		t.Errorf("Next: %q %d %t", key, tick, ok)
	}
	k.lists(t, "Peek(5, 2)", x.Peek(5, 2), 2, 0)
	k.lists(t, "Take(4, 9)", x.Take(4, 9), 2)
	x.Set("a", 9)
	k.lists(t, "Peek(9, 9)", x.Peek(9, 9), 1, 0)
	if e := x.Set("x", -1); e != api.ErrTick {
		t.Errorf("Set: %d", e)
	}
}

// P7.5: two keys that are the same, though their bytes are not, are one key.
func TestSameFloats(t *testing.T) {
	x := New[float64]()
	x.Set(0, 1)
	x.Set(math.Copysign(0, -1), 2)
	if tick, ok := x.Due(0); tick != 2 || !ok || x.Len() != 1 {
		t.Errorf("Due: %d %t, Len %d", tick, ok, x.Len())
	}
	if !x.Drop(math.Copysign(0, -1)) || x.Len() != 0 {
		t.Errorf("Len: %d", x.Len())
	}
}
