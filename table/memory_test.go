package table

import (
	"slices"
	"strings"
	"sync"
	"testing"

	"covenant/api"
)

// requests is some that pass and some that are refused, of every form of keys.
func requests() [][]string {
	var all [][]string
	for _, line := range []string{"", "foo a", "GET a", "get", "Mset a 1 b 2", "mset a 1 b", "del a b a", "copy a b", "bitop AND d x y", "PING a", "exec", "watch a b c", "zadd z 1 a"} {
		all = append(all, strings.Fields(line))
	}
	return all
}

// spoil writes over words and over the spare room behind them.
func spoil(words []string) {
	words = words[:cap(words)]
	for i := range words {
		words[i] = "spoilt"
	}
}

// R4: what is handed in is not changed, what lies ahead of it and behind its end neither, nor is it by what is written over an answer.
func TestHandedIn(t *testing.T) {
	for _, words := range requests() {
		room := append(append([]string{"ahead"}, words...), "behind", "b", "a")
		was := slices.Clone(room)
		args := room[1 : 1+len(words)]
		Check(args)
		keys := Keys(args)
		if !slices.Equal(room, was) {
			t.Errorf("%q: changed to %q", was, room)
		}
		spoil(keys)
		if !slices.Equal(room, was) {
			t.Errorf("%q: changed by its keys to %q", was, room)
		}
	}
}

// R4: what is handed in is not kept: written over, it changes neither the answer that was given nor a later one.
func TestNotKept(t *testing.T) {
	for _, words := range requests() {
		args := slices.Clone(words)
		refusal, keys := Check(args), Keys(args)
		was := slices.Clone(keys)
		spoil(args)
		if !slices.Equal(keys, was) {
			t.Errorf("%q: its keys became %q", words, keys)
		}
		if got := Check(words); got != refusal {
			t.Errorf("Check(%q): %q, then %q", words, refusal, got)
		}
		if got := Keys(words); !slices.Equal(got, was) {
			t.Errorf("Keys(%q): %q, then %q", words, was, got)
		}
	}
}

// R4: two answers of Keys share nothing, spare room too.
func TestKeysHandedOut(t *testing.T) {
	for _, words := range requests() {
		one, other := Keys(words), Keys(words)
		was := slices.Clone(other)
		spoil(one)
		if !slices.Equal(other, was) || !slices.Equal(Keys(words), was) {
			t.Errorf("Keys(%q): %q, then %q and %q", words, was, other, Keys(words))
		}
		more := append(other, "x")
		spoil(more)
		if !slices.Equal(Keys(words), was) {
			t.Errorf("Keys(%q): %q, then %q", words, was, Keys(words))
		}
	}
}

// R4: what All hands out is its caller's: written over, it changes nothing that a later call answers.
func TestAllHandedOut(t *testing.T) {
	want := slices.Clone(All())
	one, other := All(), All()
	one = one[:cap(one)]
	for i := range one {
		one[i] = api.Spec{Name: "spoilt", Arity: 77, Write: true, First: 9, Last: 9, Step: 9}
	}
	if !slices.Equal(other, want) || !slices.Equal(All(), want) {
		t.Error("All: changed by what was written over an earlier answer")
	}
	if _, ok := Find("spoilt"); ok {
		t.Error("Find: a row that was written over an answer")
	}
	for _, row := range chapter(t) {
		if got, ok := Find(row.Name); !ok || got != row {
			t.Errorf("Find(%q): %+v, %v", row.Name, got, ok)
		}
	}
}

// R5: what is asked by several at once is answered as it is to one.
func TestAtOnce(t *testing.T) {
	want := All()
	wrong := make([]bool, 8)
	var all sync.WaitGroup
	for i := range wrong {
		all.Add(1)
		go func() {
			defer all.Done()
			for range 20 {
				keys := Keys([]string{"mset", "a", "1", "b"})
				refusal := Check([]string{"FOO\r"})
				wrong[i] = wrong[i] || !slices.Equal(All(), want) || !slices.Equal(keys, []string{"a", "b"}) || refusal != "ERR unknown command FOO?"
				spoil(keys)
			}
		}()
	}
	all.Wait()
	if slices.Contains(wrong, true) {
		t.Error("several at once were answered otherwise than one")
	}
}
