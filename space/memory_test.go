package space

import (
	"fmt"
	"slices"
	"strings"
	"testing"

	"covenant/api"
)

// spoil writes over a value's lists and over the spare room behind them.
func spoil(v api.Value) {
	for l, i := v.List[:cap(v.List)], 0; i < len(l); i++ {
		l[i] = "spoilt"
	}
	for l, i := v.Fields[:cap(v.Fields)], 0; i < len(l); i++ {
		l[i] = api.Field{Name: "spoilt", Value: "spoilt"}
	}
	for l, i := v.Ranked[:cap(v.Ranked)], 0; i < len(l); i++ {
		l[i] = api.Scored{Name: "spoilt", Score: 77}
	}
}

func spoilKeys(l []string) { spoil(api.Value{List: l}) }

func spoilEntries(l []api.Entry) {
	l = l[:cap(l)]
	for i := range l {
		spoil(l[i].Value)
		l[i] = entry("spoilt", "spoilt", 77, 77)
	}
}

func spoilEffects(l []api.Effect) {
	l = l[:cap(l)]
	for i := range l {
		spoil(l[i].Value)
		l[i] = api.Effect{Kind: api.EffectDrop, Key: "spoilt", Due: 77}
	}
}

// roomy is a value with spare room behind its lists, those of no length too, and that room with the lists ahead of it.
func roomy(v api.Value) (api.Value, api.Value) {
	room := v
	room.List = append(slices.Clone(v.List), "behind", "b", "a")
	room.Fields = append(slices.Clone(v.Fields), api.Field{Name: "behind"}, api.Field{Name: "a"})
	room.Ranked = append(slices.Clone(v.Ranked), api.Scored{Name: "behind", Score: 1}, api.Scored{Name: "a"})
	v.List = room.List[:len(v.List)]
	v.Fields = room.Fields[:len(v.Fields)]
	v.Ranked = room.Ranked[:len(v.Ranked)]
	return v, room
}

// kinds is a value of each kind, with lists of their own at each call.
func kinds() []api.Value {
	return []api.Value{
		aText("x"), aList("b", "a", "b"), aHash(api.Field{Name: "a", Value: "2"}, api.Field{Name: "b", Value: "1"}),
		aSet("a", "b", "c"), aRank(api.Scored{Name: "b", Score: 1}, api.Scored{Name: "a", Score: 2}),
	}
}

// R4: a value that is handed in to Put is not changed, and not kept: neither in the key nor in the change.
func TestPutNotKept(t *testing.T) {
	for _, first := range kinds() {
		v, room := roomy(first)
		was := show(room)
		s := New()
		s.Put("ahead", v, 0)
		s.Mark()
		s.Put("k", v, 3)
		s.Put("l", v, 3)
		s.SetDue("k", 5)
		s.Put("q", v, -1)
		before := whole(s) + changed(s)
		if show(v) != show(first) || show(room) != was {
			t.Errorf("%s: changed to %s, and behind its end to %s", show(first), show(v), show(room))
		}
		spoil(room)
		is(t, show(first), whole(s)+changed(s), before)
		s.Back()
		s.Put("k", first, 5)
		holds(t, "behind Back", s, row([]api.Entry{{Key: "ahead", Value: first, Version: 1}, {Key: "k", Value: first, Due: 5, Version: 2}})+"/2")
	}
}

// R4: entries that are handed in to Load are not changed, and not kept.
func TestLoadNotKept(t *testing.T) {
	var full []api.Entry
	var rooms []api.Value
	for i, first := range append(kinds(), aText("behind the end")) {
		v, room := roomy(first)
		rooms = append(rooms, room)
		full = append(full, api.Entry{Key: fmt.Sprint(i), Value: v, Due: i, Version: uint64(i + 1)})
	}
	l := full[:len(full)-1]
	was := row(full)
	var roomsWere []string
	for _, room := range rooms {
		roomsWere = append(roomsWere, show(room))
	}
	s := New()
	if e := s.Load(l); e != api.OK {
		t.Fatalf("Load: %d", e)
	}
	want := row(l) + "/5"
	holds(t, "Load", s, want)
	is(t, "what was handed in", row(full), was)
	for i, room := range rooms {
		is(t, "behind its end", show(room), roomsWere[i])
	}
	before := whole(s)
	spoilEntries(full)
	for _, room := range rooms {
		spoil(room)
	}
	is(t, "behind a change of what was handed in", whole(s), before)
	// One that is refused at its last entry leaves those ahead of it alone.
	twice := []api.Entry{{Key: "b", Value: aSet("a", "b"), Version: 1}, {Key: "a", Value: aList("z"), Version: 1}}
	s.Load(twice)
	is(t, "what was refused", row(twice), row([]api.Entry{{Key: "b", Value: aSet("a", "b"), Version: 1}, {Key: "a", Value: aList("z"), Version: 1}}))
}

// filled is a space with each kind of value, ahead of a mark and behind it.
func filled(t *testing.T) *Space {
	s := New()
	for i, v := range kinds() {
		s.Put(fmt.Sprint("ahead", i), v, 5)
		s.Put(fmt.Sprint("changed", i), v, 0)
	}
	s.Mark()
	for i, v := range kinds() {
		s.Put(fmt.Sprint("behind", i), v, 5)
		s.SetDue(fmt.Sprint("changed", i), 5-i)
	}
	s.Drop("ahead1")
	return s
}

// R4: what is handed out is new memory, spare room too: whatever is written there changes neither the space, nor what a mark keeps, nor another answer.
func TestNewMemory(t *testing.T) {
	for what, write := range map[string]func(s *Space){
		"Get": func(s *Space) {
			for _, key := range s.Keys(0) {
				v, _ := s.Get(key, 0)
				spoil(v)
			}
		},
		"All": func(s *Space) {
			for _, v := range s.All(0) {
				spoil(v)
			}
		},
		"Entries": func(s *Space) { spoilEntries(s.Entries()) },
		"Changes": func(s *Space) { spoilEffects(s.Changes()) },
		"Touched": func(s *Space) { spoilKeys(s.Touched()) },
		"Keys":    func(s *Space) { spoilKeys(s.Keys(0)); spoilKeys(s.Keys(9)) },
		"Stale":   func(s *Space) { spoilKeys(s.Stale(9, 99)); spoilKeys(s.Stale(9, 2)); spoilKeys(s.Stale(0, 2)) },
	} {
		s, other := filled(t), filled(t)
		was := whole(s) + changed(s)
		entries, changes, keys, stale, touched, all := s.Entries(), s.Changes(), s.Keys(0), s.Stale(9, 99), s.Touched(), s.All(0)
		write(s)
		is(t, what+" written over", whole(s)+changed(s), was)
		is(t, what+": Entries ahead", row(entries), row(other.Entries()))
		is(t, what+": Changes ahead", fmt.Sprint(changes), fmt.Sprint(other.Changes()))
		is(t, what+": keys ahead", fmt.Sprint(keys, stale, touched), fmt.Sprint(other.Keys(0), other.Stale(9, 99), other.Touched()))
		var walk []string
		for key, v := range all {
			walk = append(walk, key+"="+show(v))
		}
		is(t, what+": All ahead", strings.Join(walk, " "), gone(other, 0))
		s.Back()
		other.Back()
		is(t, what+" behind Back", whole(s), whole(other))
	}
}

// R4: what All hands out while it goes is its caller's: going on and going again tell the same.
func TestAllNewMemory(t *testing.T) {
	s := filled(t)
	want := gone(s, 0)
	all := s.All(0)
	for range 3 {
		var got []string
		for key, v := range all {
			for _, inner := range all {
				spoil(inner)
			}
			got = append(got, key+"="+show(v))
			spoil(v)
		}
		is(t, "All written over", strings.Join(got, " "), want)
	}
	is(t, "the space", gone(s, 0), want)
}

// R4: no two lists of one answer share any memory, though they were one list when they were handed in.
func TestApart(t *testing.T) {
	for _, v := range kinds() {
		s := New()
		s.Mark()
		for _, key := range []string{"a", "b", "a", "c"} {
			s.Put(key, v, 0)
		}
		want := show(v)
		entries, changes := s.Entries(), s.Changes()
		for i := range entries {
			is(t, "Entries", show(entries[i].Value), want)
			spoil(entries[i].Value)
		}
		for i := range changes {
			is(t, "Changes", show(changes[i].Value), want)
			spoil(changes[i].Value)
		}
		is(t, "what was handed in", show(v), want)
		for _, e := range s.Entries() {
			is(t, "the space", show(e.Value), want)
		}
	}
}

// R4: an answer stays as it is, whatever is done to the space behind it.
func TestAnswersStay(t *testing.T) {
	s, other := filled(t), filled(t)
	entries, changes, keys, stale, touched := s.Entries(), s.Changes(), s.Keys(0), s.Stale(9, 99), s.Touched()
	for i := range 5 {
		put(t, s, fmt.Sprint("behind", i), "new", 1)
		s.Drop(fmt.Sprint("changed", i))
		s.Put(fmt.Sprint("a", i), aList("new"), 1)
	}
	s.Clear()
	s.Back()
	s.Load(nil)
	is(t, "Entries", row(entries), row(other.Entries()))
	is(t, "Changes", fmt.Sprint(changes), fmt.Sprint(other.Changes()))
	is(t, "keys", fmt.Sprint(keys, stale, touched), fmt.Sprint(other.Keys(0), other.Stale(9, 99), other.Touched()))
}

// What is there no more is not kept, nor what a mark kept that stands no more.
func TestLetGo(t *testing.T) {
	s := New()
	for i := range 50 {
		put(t, s, fmt.Sprint(i), "v", i)
	}
	for i := range 50 {
		s.SetDue(fmt.Sprint(i), i%2)
	}
	for i := range 45 {
		s.Drop(fmt.Sprint(i))
	}
	if len(s.entries) != 5 || s.dues.Len() != 3 || s.mark != nil {
		t.Errorf("behind Drop: %d entries, %d deadlines", len(s.entries), s.dues.Len())
	}
	s.Mark()
	s.Clear()
	if len(s.entries) != 0 || s.dues.Len() != 0 {
		t.Errorf("behind Clear: %d entries, %d deadlines", len(s.entries), s.dues.Len())
	}
	s.Back()
	if len(s.entries) != 5 || s.dues.Len() != 3 || s.mark != nil {
		t.Errorf("behind Back: %d entries, %d deadlines", len(s.entries), s.dues.Len())
	}
	s.Mark()
	s.Drop("49")
	s.Keep()
	if s.mark != nil {
		t.Error("behind Keep")
	}
	s.Load([]api.Entry{entry("k", "v", 3, 1)})
	if len(s.entries) != 1 || s.dues.Len() != 1 {
		t.Errorf("behind Load: %d entries, %d deadlines", len(s.entries), s.dues.Len())
	}
}

// A mark, a touch and its end cost by what is touched, not by how many keys there are.
func TestMuch(t *testing.T) {
	const keys = 1 << 16
	s := New()
	for i := range keys {
		put(t, s, fmt.Sprint(i), "v", i%100)
	}
	for i := range keys {
		key := fmt.Sprint(i)
		s.Mark()
		put(t, s, key, "w", 0)
		s.SetDue(key, 1000+i)
		s.Drop(fmt.Sprint(keys - 1 - i))
		if i%2 == 0 {
			s.Back()
		} else {
			s.Keep()
		}
		if i%16 == 0 {
			s.Stale(99, 5)
		}
	}
	s.Mark()
	n := s.Clear()
	s.Back()
	if n != len(s.Entries()) || s.Len(0) != n || len(s.Keys(0)) != n {
		t.Errorf("Clear: %d of %d", n, s.Len(0))
	}
	if e := s.Load(s.Entries()); e != api.OK || s.Len(0) != n {
		t.Errorf("Load: %d, Len %d", e, s.Len(0))
	}
}
