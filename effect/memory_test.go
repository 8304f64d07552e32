package effect

import (
	"fmt"
	"slices"
	"strings"
	"testing"
	"unsafe"

	"covenant/api"
	"covenant/space"
)

// spoilValue writes over a value's lists and over the spare room behind them.
func spoilValue(v api.Value) {
	for l, i := v.List[:cap(v.List)], 0; i < len(l); i++ {
		l[i] = "spoilt"
	}
	for l, i := v.Fields[:cap(v.Fields)], 0; i < len(l); i++ {
		l[i] = api.Field{Name: "spoilt", Value: "spoilt"}
	}
	for l, i := v.Ranked[:cap(v.Ranked)], 0; i < len(l); i++ {
		l[i] = api.Scored{Name: "spoilt", Score: 77}
	}
}

// spoil writes over effects, their lists, and the spare room behind both.
func spoil(l []api.Effect) {
	l = l[:cap(l)]
	for i := range l {
		spoilValue(l[i].Value)
		l[i] = api.Effect{Kind: 77, Key: "spoilt", Value: aText("spoilt"), Due: 77}
	}
}

// roomy is effects with spare room behind the list and behind each list in it, and all of that room told as effects.
func roomy(l []api.Effect) ([]api.Effect, []api.Effect) {
	var all, rooms []api.Effect
	for _, x := range l {
		room := x
		room.Value.List = append(slices.Clone(x.Value.List), "behind", "b", "a")
		room.Value.Fields = append(slices.Clone(x.Value.Fields), api.Field{Name: "behind"}, api.Field{Name: "a"})
		room.Value.Ranked = append(slices.Clone(x.Value.Ranked), api.Scored{Name: "behind", Score: 1}, api.Scored{Name: "a"})
		rooms = append(rooms, room)
		x.Value.List = room.Value.List[:len(x.Value.List)]
		x.Value.Fields = room.Value.Fields[:len(x.Value.Fields)]
		x.Value.Ranked = room.Value.Ranked[:len(x.Value.Ranked)]
		all = append(all, x)
	}
	all = append(all, aPut("behind", aList("behind"), 9), api.Effect{Kind: 9})
	return all[:len(l)], append(rooms, all[len(l):]...)
}

// detail is effects as one text, with all that is in them.
func detail(l []api.Effect) string {
	var out strings.Builder
	for _, x := range l {
		fmt.Fprintf(&out, "%d %q %d %d %q %q %q %v\n", x.Kind, x.Key, x.Due, x.Value.Kind, x.Value.Text, x.Value.List, x.Value.Fields, x.Value.Ranked)
	}
	return out.String()
}

// lists is effects of every kind, with every kind of value, and some in which one may not be.
func lists() [][]api.Effect {
	var all []api.Effect
	for i, v := range kinds() {
		all = append(all, aPut(fmt.Sprint("k", i), v, i), aDue(fmt.Sprint("k", i), 7-i))
	}
	all = append(all, aDrop("k0"), aPut("k0", aHash(api.Field{Name: "n"}), 1))
	wrong := withOne(all, 3, aPut("q", aSet("b", "a"), 0))
	wrong = withOne(wrong, 5, aPut("q", aRank(api.Scored{Name: "b", Score: 2}, api.Scored{Name: "a", Score: 1}), 0))
	wrong = withOne(wrong, 7, api.Effect{Kind: api.EffectDrop, Key: "q", Value: aList("b", "a")})
	return [][]api.Effect{all, wrong, append([]api.Effect{aClear()}, all...), nil}
}

// R4: what is handed in to Encode and Apply is not changed, what lies behind its end neither.
func TestHandedIn(t *testing.T) {
	for _, first := range lists() {
		l, rooms := roomy(first)
		was, roomsWere := detail(l), detail(rooms)
		full := detail(l[:cap(l)][:len(l)+2])
		Encode(l)
		sp := two()
		Apply(sp, l)
		sp.Put("k1", aText("new"), 0)
		sp.Clear()
		if detail(l) != was || detail(rooms) != roomsWere || detail(l[:len(l)+2]) != full {
			t.Errorf("%s: changed to %s, and behind its end to %s", was, detail(l), detail(rooms))
		}
	}
}

// R4: effects that were handed in to Apply are not kept: neither in a key nor in what a mark notes.
func TestApplyNotKept(t *testing.T) {
	for _, first := range lists() {
		l, rooms := roomy(first)
		sp := two()
		sp.Mark()
		Apply(sp, l)
		was := whole(sp)
		spoil(rooms)
		spoil(l)
		if whole(sp) != was {
			t.Errorf("%s became %s", was, whole(sp))
		}
	}
}

// R4: one list in several effects becomes a list of its own in each key.
func TestApplyApart(t *testing.T) {
	for _, v := range kinds() {
		sp := space.New()
		Apply(sp, []api.Effect{aPut("a", v, 0), aPut("b", v, 0)})
		was := told(sp)
		for _, e := range sp.Entries() {
			spoilValue(e.Value)
		}
		spoilValue(v)
		if told(sp) != was {
			t.Errorf("%s became %s", was, told(sp))
		}
	}
}

// R4: what Encode gave stays, whatever is written over what was handed in.
func TestEncodedStays(t *testing.T) {
	for _, l := range lists() {
		s, _ := Encode(l)
		was := strings.Clone(s)
		spoil(l)
		if s != was {
			t.Errorf("%q became %q", was, s)
		}
	}
}

// apart fails unless two answers to the same question, and the lists within each, share no memory, spare room too.
func apart(t *testing.T, what string, ask func() []api.Effect) {
	t.Helper()
	one, other := ask(), ask()
	want := detail(one)
	spoil(one)
	if detail(other) != want || detail(ask()) != want {
		t.Errorf("%s: %s became %s, then %s", what, want, detail(other), detail(ask()))
	}
	// Within one answer: what is written over one effect's lists leaves all others.
	for i := range other {
		rest := detail(other[i+1:])
		spoilValue(other[i].Value)
		if detail(other[i+1:]) != rest {
			t.Errorf("%s: the lists of effect %d are those of another", what, i)
		}
		grown := append(other[i].Value.List, "more")
		spoilValue(api.Value{List: grown})
		if detail(other[i+1:]) != rest {
			t.Errorf("%s: behind the lists of effect %d stand those of another", what, i)
		}
	}
}

// R4: what Decode tells is its caller's.
func TestDecodedApart(t *testing.T) {
	for _, l := range lists() {
		s, e := Encode(l)
		if e != api.OK {
			continue
		}
		was := strings.Clone(s)
		apart(t, "Decode", func() []api.Effect { got, _ := Decode(s); return got })
		if s != was {
			t.Errorf("%q became %q", was, s)
		}
	}
}

// R4: what Snapshot tells is its caller's, and shares nothing with the space.
func TestSnapshotApart(t *testing.T) {
	sp := two()
	for i, v := range kinds() {
		sp.Put(fmt.Sprint("k", i), v, i)
		sp.Put(fmt.Sprint("l", i), v, i)
	}
	sp.Mark()
	Apply(sp, lists()[0])
	was := whole(sp)
	apart(t, "Snapshot", func() []api.Effect { return Snapshot(sp) })
	if whole(sp) != was {
		t.Errorf("%s became %s", was, whole(sp))
	}
	// What was told stays, whatever is done to the space behind it.
	l := Snapshot(sp)
	told := detail(l)
	for _, e := range sp.Entries() {
		sp.Put(e.Key, aText("new"), 1)
	}
	sp.Back()
	sp.Clear()
	if detail(l) != told {
		t.Errorf("%s became %s", told, detail(l))
	}
}

// R4: the bytes that are handed in to Decode are not kept: no text of the answer lies within them.
func TestDecodedTexts(t *testing.T) {
	s, _ := Encode(lists()[0])
	from := uintptr(unsafe.Pointer(unsafe.StringData(s)))
	l, _ := Decode(s)
	for _, x := range l {
		texts := append([]string{x.Key, x.Value.Text}, x.Value.List...)
		for _, f := range x.Value.Fields {
			texts = append(texts, f.Name, f.Value)
		}
		for _, r := range x.Value.Ranked {
			texts = append(texts, r.Name)
		}
		for _, text := range texts {
			at := uintptr(unsafe.Pointer(unsafe.StringData(text)))
			if text != "" && at >= from && at < from+uintptr(len(s)) {
				t.Errorf("%q of %s lies within the bytes", text, show([]api.Effect{x}))
			}
		}
	}
}
