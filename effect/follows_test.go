package effect

import (
	"fmt"
	"math/rand"
	"slices"
	"testing"

	"covenant/api"
	"covenant/space"
)

// few is effects about two keys, of which every short script is tried.
func few() []api.Effect {
	return []api.Effect{
		aPut("a", aText("x"), 0), aPut("a", aList("l"), 2), aPut("b", aSet("s", "t"), 1), aPut("b", aText("y"), 0),
		aDrop("a"), aDrop("b"), aDue("a", 2), aDue("b", 0), aClear(),
	}
}

// scripts goes over all lists of few effects up to a length.
func scripts(most int, each func([]api.Effect)) {
	var walk func(l []api.Effect)
	walk = func(l []api.Effect) {
		each(l)
		if len(l) == most {
			return
		}
		for _, x := range few() {
			walk(append(l[:len(l):len(l)], x))
		}
	}
	walk(nil)
}

// done is a space on which effects were done by the calls that the chapter names.
func done(l []api.Effect) *space.Space {
	sp := space.New()
	for _, x := range l {
		byHand(sp, x)
	}
	return sp
}

// replays fails unless the changes of what is done behind a mark, written and read, make a space that is as it was at the mark the same, versions and all.
func replays(t *testing.T, ahead, behind []api.Effect) {
	t.Helper()
	sp, again := done(ahead), done(ahead)
	sp.Mark()
	for _, x := range behind {
		byHand(sp, x)
	}
	changes := sp.Changes()
	s, e := Encode(changes)
	if e != api.OK {
		t.Fatalf("%s: the changes %s may not be: %d", show(behind), show(changes), e)
	}
	read, e := Decode(s)
	if e != api.OK || !same(read, changes) {
		t.Fatalf("%s: the changes %s are read as %s, %d", show(behind), show(changes), show(read), e)
	}
	if e := Apply(again, read); e != api.OK || told(again) != told(sp) {
		t.Fatalf("%s, then %s: done again %d, %s, not %s", show(ahead), show(behind), e, told(again), told(sp))
	}
	// A space that was taken back to the mark is as it was there, too.
	was := told(sp)
	sp.Back()
	if e := Apply(sp, changes); e != api.OK || told(sp) != was {
		t.Fatalf("%s, then %s: done again behind Back %d, %s, not %s", show(ahead), show(behind), e, told(sp), was)
	}
}

// P16.5: replay, of every short script and of long ones.
func TestReplay(t *testing.T) {
	f := few()
	for _, ahead := range [][]api.Effect{nil, {f[0]}, {f[0], f[2]}, {f[1], f[3], f[4]}, {f[0], f[2], f[8]}} {
		scripts(3, func(behind []api.Effect) { replays(t, ahead, behind) })
	}
	for seed := range int64(300) {
		r := rand.New(rand.NewSource(seed))
		replays(t, someEffects(r, someKeys(), 30), someEffects(r, someKeys(), 30))
	}
}

// P16.5: a chain of commits, each one behind the others, makes the same space.
func TestReplayOfMany(t *testing.T) {
	for seed := range int64(40) {
		r := rand.New(rand.NewSource(seed))
		sp, again := space.New(), space.New()
		for range 30 {
			sp.Mark()
			for _, x := range someEffects(r, someKeys(), 5) {
				byHand(sp, x)
			}
			changes := sp.Changes()
			if r.Intn(4) == 0 {
				sp.Back()
				continue
			}
			sp.Keep()
			if e := Apply(again, changes); e != api.OK || told(again) != told(sp) {
				t.Fatalf("seed %d: Apply(%s): %d, %s, not %s", seed, show(changes), e, told(again), told(sp))
			}
		}
	}
}

// isWhole fails unless the snapshot of a space, also written and read, makes a new one with the same Bytes.
func isWhole(t *testing.T, what string, sp *space.Space) {
	t.Helper()
	l := Snapshot(sp)
	other := space.New()
	if e := Apply(other, l); e != api.OK || other.Bytes() != sp.Bytes() {
		t.Fatalf("%s: Apply(%s): %d, %s, not %s", what, show(l), e, told(other), told(sp))
	}
	s, e := Encode(l)
	if e != api.OK {
		t.Fatalf("%s: Encode(%s): %d", what, show(l), e)
	}
	read, _ := Decode(s)
	third := space.New()
	if e := Apply(third, read); e != api.OK || third.Bytes() != sp.Bytes() || told(third) != told(other) {
		t.Fatalf("%s: Apply(%s): %d, %s, not %s", what, show(read), e, told(third), told(sp))
	}
	if n := uint64(len(sp.Entries())); other.Counter() != n {
		t.Fatalf("%s: Counter %d, not %d", what, other.Counter(), n)
	}
}

// P16.6: whole.
func TestWhole(t *testing.T) {
	isWhole(t, "no keys", space.New())
	scripts(4, func(l []api.Effect) { isWhole(t, show(l), done(l)) })
	sp := space.New()
	for i, v := range goodValues() {
		sp.Put(fmt.Sprint(i), v, i)
	}
	isWhole(t, "every kind", sp)
	for seed := range int64(300) {
		isWhole(t, fmt.Sprint("seed ", seed), done(someEffects(rand.New(rand.NewSource(seed)), someKeys(), 60)))
	}
	if other := space.New(); Apply(other, Snapshot(nil)) != api.OK || told(other) != "/0" {
		t.Errorf("of nil: %s", told(other))
	}
}

// P16.7: two lists, one behind the other, are both as one, wherever a list is cut.
func TestBothAsOne(t *testing.T) {
	cut := func(ahead, l []api.Effect) {
		one := done(ahead)
		if e := Apply(one, l); e != api.OK {
			t.Fatalf("Apply(%s): %d", show(l), e)
		}
		for at := range len(l) + 1 {
			sp := done(ahead)
			first, second := Apply(sp, l[:at]), Apply(sp, l[at:])
			if first != api.OK || second != api.OK || told(sp) != told(one) {
				t.Fatalf("Apply(%s) cut at %d: %d, %d, %s, not %s", show(l), at, first, second, told(sp), told(one))
			}
			s, _ := Encode(l[:at])
			rest, _ := Encode(l[at:])
			if both, e := Encode(slices.Concat(l[:at], l[at:])); e != api.OK || both != s+rest {
				t.Fatalf("Encode(%s) cut at %d: %q and %q, not %q", show(l), at, s, rest, both)
			}
		}
	}
	scripts(3, func(l []api.Effect) {
		cut(nil, l)
		cut(few()[:3], l)
	})
	for seed := range int64(100) {
		r := rand.New(rand.NewSource(seed))
		cut(someEffects(r, someKeys(), 10), someEffects(r, someKeys(), 15))
	}
}
