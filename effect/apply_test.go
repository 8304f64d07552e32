package effect

import (
	"fmt"
	"math/rand"
	"slices"
	"strings"
	"testing"

	"covenant/api"
	"covenant/space"
)

// told is all entries of a space and its counter, as in "a=x@5#1 b=y#2 /2": each key, its value, its deadline if it has one, its version.
func told(sp *space.Space) string {
	var out strings.Builder
	for _, e := range sp.Entries() {
		fmt.Fprintf(&out, "%s=%s", e.Key, held(e.Value))
		if e.Due != 0 {
			fmt.Fprintf(&out, "@%d", e.Due)
		}
		fmt.Fprintf(&out, "#%d ", e.Version)
	}
	return fmt.Sprintf("%s/%d", out.String(), sp.Counter())
}

// held is a value as one text; a short string is told as it is.
func held(v api.Value) string {
	if v.Kind == api.KindText && len(v.List)+len(v.Fields)+len(v.Ranked) == 0 {
		return v.Text
	}
	return fmt.Sprintf("%d%q%q%q%v", v.Kind, v.Text, v.List, v.Fields, v.Ranked)
}

// whole is all that a space tells, what is noted since a mark too.
func whole(sp *space.Space) string {
	return told(sp) + fmt.Sprintf(" %q %s %q %q", sp.Bytes(), show(sp.Changes()), sp.Touched(), sp.Stale(top, 999))
}

// byHand does an effect by the call that the chapter names for it.
func byHand(sp *space.Space, x api.Effect) {
	switch x.Kind {
	case 1:
		sp.Put(x.Key, x.Value, x.Due)
	case 2:
		sp.Drop(x.Key)
	case 3:
		sp.SetDue(x.Key, x.Due)
	case 4:
		sp.Clear()
	}
}

// two is a space with the keys a (without a deadline) and b (with the deadline 5).
func two() *space.Space {
	sp := space.New()
	sp.Put("a", aText("x"), 0)
	sp.Put("b", aText("y"), 5)
	return sp
}

// gives fails unless Apply answers OK, and makes a space tell this.
func gives(t *testing.T, sp *space.Space, want string, l ...api.Effect) {
	t.Helper()
	if e := Apply(sp, l); e != api.OK || told(sp) != want {
		t.Errorf("Apply(%s): %d, %s, not %s", show(l), e, told(sp), want)
	}
}

// P16.2: to nil.
func TestApplyToNil(t *testing.T) {
	for _, l := range [][]api.Effect{nil, {}, kindsOfEffects(), {{}}, {aPut("a", aList(), 0)}} {
		if e := Apply(nil, l); e != api.ErrArg {
			t.Errorf("Apply(nil, %s): %d", show(l), e)
		}
	}
}

// P16.2: each kind, to keys that are there and that are not.
func TestApply(t *testing.T) {
	gives(t, space.New(), "/0")
	gives(t, two(), "a=x#1 b=y@5#2 /2")
	gives(t, two(), "a=x#1 b=y@5#2 /2", []api.Effect{}...)
	gives(t, space.New(), "a=z#1 /1", aPut("a", aText("z"), 0))
	gives(t, space.New(), "=@7#1 /1", aPut("", aText(""), 7))
	gives(t, two(), "a=z@9#3 b=y@5#2 /3", aPut("a", aText("z"), 9))
	gives(t, two(), "a=x#1 b=y#3 /3", aPut("b", aText("y"), 0))
	gives(t, two(), "a=x#1 b=y@5#2 q=z@9007199254740992#3 /3", aPut("q", aText("z"), top))
	gives(t, two(), "b=y@5#2 /3", aDrop("a"))
	gives(t, two(), "a=x#1 /3", aDrop("b"))
	gives(t, two(), "a=x#1 b=y@5#2 /2", aDrop("q"))
	gives(t, two(), "a=x#1 b=y@5#2 /2", aDrop(""))
	gives(t, two(), "a=x@7#3 b=y@5#2 /3", aDue("a", 7))
	gives(t, two(), "a=x#3 b=y@5#2 /3", aDue("a", 0))
	gives(t, two(), "a=x#1 b=y#3 /3", aDue("b", 0))
	gives(t, two(), "a=x#1 b=y@5#3 /3", aDue("b", 5))
	gives(t, two(), "a=x#1 b=y@9007199254740992#3 /3", aDue("b", top))
	gives(t, two(), "a=x#1 b=y@5#2 /2", aDue("q", 7))
	gives(t, two(), "/4", aClear())
	gives(t, space.New(), "/0", aClear())
	gives(t, space.New(), "/0", aDrop("a"), aDue("a", 7), aClear())
}

// P16.2: the order of effects is that of the list.
func TestApplyInOrder(t *testing.T) {
	gives(t, two(), "a=z#5 /5", aClear(), aPut("a", aText("z"), 0))
	gives(t, two(), "/6", aPut("c", aText("z"), 0), aClear())
	gives(t, two(), "a=2@3#5 b=y@5#2 /5", aPut("a", aText("1"), 1), aPut("a", aText("2"), 2), aDue("a", 3))
	gives(t, two(), "a=2@2#5 b=y@5#2 /5", aPut("a", aText("1"), 1), aDue("a", 3), aPut("a", aText("2"), 2))
	gives(t, two(), "b=y@5#2 /3", aDrop("a"), aDue("a", 3), aDrop("a"))
	gives(t, two(), "a=1#4 b=y@5#2 /4", aDrop("a"), aPut("a", aText("1"), 0))
	gives(t, two(), "b=y@5#2 /4", aPut("a", aText("1"), 0), aDrop("a"))
	gives(t, two(), "/4", aClear(), aDue("a", 1), aDrop("b"), aClear())
}

// The chapter's second example.
func TestSecondExample(t *testing.T) {
	gives(t, space.New(), "a=x@7#2 /2", aPut("a", aText("x"), 0), aDrop("q"), aDue("a", 7))
}

// P16.2: values of every kind.
func TestApplyValues(t *testing.T) {
	for _, v := range goodValues() {
		for _, key := range []string{"a", "q", ""} {
			sp, hand := two(), two()
			x := aPut(key, v, 3)
			byHand(hand, x)
			if e := Apply(sp, []api.Effect{x}); e != api.OK || whole(sp) != whole(hand) {
				t.Errorf("Apply(%s): %d, %.200s", show([]api.Effect{x}), e, told(sp))
			}
		}
	}
}

// P16.2: a list in which one may not be changes nothing, at whatever place that one stands, with a mark and without.
func TestApplyMayNotBe(t *testing.T) {
	for what, x := range bad() {
		for at := range 5 {
			for _, marked := range []bool{false, true} {
				sp := two()
				if marked {
					sp.Mark()
					sp.Drop("a")
				}
				was := whole(sp)
				if e := Apply(sp, withOne(kindsOfEffects(), at, x)); e != api.ErrEffect || whole(sp) != was {
					t.Errorf("%s at place %d: Apply: %d, %s", what, at, e, told(sp))
				}
			}
		}
		sp := space.New()
		if e := Apply(sp, []api.Effect{x}); e != api.ErrEffect || told(sp) != "/0" {
			t.Errorf("%s: Apply: %d, %s", what, e, told(sp))
		}
	}
}

// P16.2: what is over, by whatever tick, is there still, and is changed like all else: there is no clock here.
func TestApplyToOver(t *testing.T) {
	sp := space.New()
	sp.Put("a", aText("x"), 1)
	gives(t, sp, "a=x@9#2 /2", aDue("a", 9))
	gives(t, sp, "a=x@1#3 /3", aDue("a", 1))
	gives(t, sp, "/4", aDrop("a"))
}

// P16.2: a mark that stands stays, and notes just what touched something; Back takes it all back, and Keep leaves it.
func TestApplyWithMark(t *testing.T) {
	l := []api.Effect{aPut("c", aText("z"), 1), aDrop("q"), aDrop("a"), aDue("a", 7), aDue("b", 5), aPut("b", aSet("a"), 2)}
	sp := two()
	was := told(sp)
	sp.Mark()
	gives(t, sp, `b=4""["a"][][]@2#6 c=z@1#3 /6`, l...)
	noted := []api.Effect{l[0], l[2], l[4], l[5]}
	if !same(sp.Changes(), noted) || !slices.Equal(sp.Touched(), []string{"a", "b", "c"}) {
		t.Errorf("Changes: %s, Touched: %q", show(sp.Changes()), sp.Touched())
	}
	if sp.Mark() != api.ErrMark {
		t.Error("the mark is gone")
	}
	if sp.Back() != api.OK || told(sp) != was {
		t.Errorf("Back: %s", told(sp))
	}
	sp.Mark()
	Apply(sp, []api.Effect{aClear()})
	if !same(sp.Changes(), []api.Effect{aClear()}) || sp.Keep() != api.OK || told(sp) != "/4" {
		t.Errorf("behind a clear and Keep: %s", told(sp))
	}
	Apply(sp, l)
	if sp.Keep() != api.ErrMark || len(sp.Changes()) != 0 {
		t.Error("Apply set a mark")
	}
}

// P16.2: random lists, with a mark and without, do what the calls do that the chapter names.
func TestApplyByHand(t *testing.T) {
	for seed := range int64(300) {
		r := rand.New(rand.NewSource(seed))
		sp, hand := space.New(), space.New()
		for range 6 {
			if r.Intn(2) == 0 {
				sp.Mark()
				hand.Mark()
			}
			l := someEffects(r, someKeys(), 12)
			if e := Apply(sp, l); e != api.OK {
				t.Fatalf("seed %d: Apply(%s): %d", seed, show(l), e)
			}
			for _, x := range l {
				byHand(hand, x)
			}
			if whole(sp) != whole(hand) {
				t.Fatalf("seed %d: Apply(%s): %s, not %s", seed, show(l), whole(sp), whole(hand))
			}
			if r.Intn(2) == 0 {
				sp.Back()
				hand.Back()
			}
		}
	}
}

// isSnapshot fails unless Snapshot gives just these effects, and leaves the space as it was.
func isSnapshot(t *testing.T, what string, sp *space.Space, want ...api.Effect) {
	t.Helper()
	was := whole(sp)
	if l := Snapshot(sp); !same(l, want) {
		t.Errorf("%s: Snapshot: %s, not %s", what, show(l), show(want))
	}
	if whole(sp) != was {
		t.Errorf("%s: Snapshot made of %s: %s", what, was, whole(sp))
	}
}

// P16.3: of nil, of no keys, of several with deadlines and without, by rising keys, whatever is over or was done ahead.
func TestSnapshot(t *testing.T) {
	if l := Snapshot(nil); len(l) != 0 {
		t.Errorf("Snapshot(nil): %s", show(l))
	}
	isSnapshot(t, "no keys", space.New())
	isSnapshot(t, "two keys", two(), aPut("a", aText("x"), 0), aPut("b", aText("y"), 5))
	sp := space.New()
	var want []api.Effect
	keys := someKeys()
	values := goodValues()
	for i, key := range keys {
		sp.Put(key, values[i], i*3%7)
		want = append(want, aPut(key, values[i], i*3%7))
	}
	slices.SortFunc(want, func(a, b api.Effect) int { return strings.Compare(a.Key, b.Key) })
	isSnapshot(t, "many keys", sp, want...)
	sp.SetDue(want[3].Key, top)
	want[3].Due = top
	sp.Drop(want[5].Key)
	want = slices.Delete(want, 5, 6)
	isSnapshot(t, "behind a deadline and a drop", sp, want...)
	sp.Mark()
	sp.Put(want[0].Key, aSet("s"), 1)
	isSnapshot(t, "behind a mark", sp, withOne(want[1:], 0, aPut(want[0].Key, aSet("s"), 1))...)
	sp.Back()
	isSnapshot(t, "behind Back", sp, want...)
	sp.Clear()
	isSnapshot(t, "behind Clear", sp)
}

// P16.3: an effect for each entry, in their order, of random spaces.
func TestSnapshotOfEntries(t *testing.T) {
	for seed := range int64(200) {
		r := rand.New(rand.NewSource(seed))
		sp := space.New()
		Apply(sp, someEffects(r, someKeys(), 40))
		var want []api.Effect
		for _, e := range sp.Entries() {
			want = append(want, api.Effect{Kind: 1, Key: e.Key, Value: e.Value, Due: e.Due})
		}
		isSnapshot(t, fmt.Sprint("seed ", seed), sp, want...)
	}
}
