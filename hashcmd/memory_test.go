package hashcmd

import (
	"slices"
	"testing"

	"covenant/api"
	"covenant/resp"
)

// requests is one of each command at least, done and refused.
func requests() []string {
	all := append(asking(), errors()...)
	for _, name := range chapter() {
		all = append(all, right()[name])
	}
	return append(all, "HSET q x 1 y 2", "HMSET late p 1 q 2 r 3", "HSETNX q x 1", "HDEL h c a c", "HDEL one x", "HINCRBY late p -8", "HMGET h c b a", "HSCAN h >a MATCH * COUNT 1")
}

// R4: the words that are handed in are not changed, and what lies behind their end neither.
func TestHandedIn(t *testing.T) {
	for _, line := range requests() {
		room := append(words(line), "behind", "COUNT", "5")
		was := slices.Clone(room)
		s := begin()
		Run(s, 10, room[:len(room)-3])
		Run(nil, 10, room[:len(room)-3])
		if !slices.Equal(room, was) {
			t.Errorf("%q became %q", was, room)
		}
	}
}

// R4: what lies behind the end of the words plays no part.
func TestBehindTheEnd(t *testing.T) {
	for _, line := range requests() {
		s, other := begin(), begin()
		room := append(words(line), "count", "1", "5")
		r, ok := Run(s, 10, room[:len(room)-3])
		want, known := Run(other, 10, slices.Clip(words(line)))
		if ok != known || resp.Show(r) != resp.Show(want) || told(s) != told(other) {
			t.Errorf("%q: %s, %v, not %s, %v", line, resp.Show(r), ok, resp.Show(want), known)
		}
	}
}

// R4: the words are not kept: what is written over them later is seen neither in the keys nor in a reply.
func TestNotKept(t *testing.T) {
	for _, line := range requests() {
		args := words(line)
		s := begin()
		s.Mark()
		r, _ := Run(s, 10, args)
		was, shows, changes := told(s), resp.Show(r), shownAll(s.Changes())
		for i := range args {
			args[i] = "spoilt"
		}
		if told(s) != was || resp.Show(r) != shows || shownAll(s.Changes()) != changes {
			t.Errorf("%q: %s became %s", line, was, told(s))
		}
	}
}

// spoil writes over a list of replies, those within, and all spare room.
func spoil(l []api.Reply) {
	l = l[:cap(l)]
	for i := range l {
		spoil(l[i].List)
		l[i] = api.Reply{Kind: api.ReplySimple, Text: "spoilt"}
	}
}

// R4: the arrays that are handed out are their caller's, their spare room too.
func TestArraysApart(t *testing.T) {
	for _, line := range []string{"hmget h a b c", "hmget q a b", "hkeys h", "hvals h", "hgetall h", "hgetall q", "hscan h 0", "hscan h >a count 1", "hscan q 0"} {
		s, other := begin(), begin()
		r := mustRun(t, s, 10, words(line)...)
		same := mustRun(t, s, 10, words(line)...)
		again := mustRun(t, other, 10, words(line)...)
		was, want := told(s), resp.Show(again)
		spoil(r.List)
		if resp.Show(same) != want || resp.Show(again) != want || told(s) != was || told(other) != was {
			t.Errorf("%q: %s became %s, %s, %s", line, want, resp.Show(same), resp.Show(again), told(s))
		}
	}
}

// R4: the two lists of one answer share no memory.
func TestListsOfAScanApart(t *testing.T) {
	for _, line := range []string{"hscan h 0", "hscan h 0 count 1", "hscan h 0 match a", "hscan q 0"} {
		r := mustRun(t, begin(), 10, words(line)...)
		next, fields := r.List[0], resp.Show(r.List[1])
		held := r.List[1]
		spare := r.List[:cap(r.List)]
		for i := range spare {
			spare[i] = api.Reply{}
		}
		if resp.Show(held) != fields || next.Kind != api.ReplyBulk {
			t.Errorf("%q: %s became %s", line, fields, resp.Show(held))
		}
	}
}

// R4: a reply stays as it is, whatever is done to the keys behind it.
func TestReplyStays(t *testing.T) {
	for _, line := range []string{"hmget h a b", "hkeys h", "hvals h", "hgetall h", "hgetall late", "hscan h 0", "hget h a"} {
		s := begin()
		r := mustRun(t, s, 10, words(line)...)
		was := resp.Show(r)
		for _, next := range []string{"hset h a z b y", "hset h A 0 d 9", "hincrby h c 1", "hdel h b", "hset late p 0", "hmset h b w", "hdel h a b c d A", "hset h a n"} {
			mustRun(t, s, 10, words(next)...)
		}
		if resp.Show(r) != was {
			t.Errorf("%q: %s became %s", line, was, resp.Show(r))
		}
	}
}

// What a mark noted of a hash stays as it is, whatever is done to the hash behind it.
func TestChangesStay(t *testing.T) {
	s := begin()
	s.Mark()
	mustRun(t, s, 10, "hset", "q", "b", "2", "a", "1", "c", "3")
	was := shownAll(s.Changes())
	for _, next := range []string{"hset q a z", "hdel q b", "hset q 0 0", "hincrby q c 1", "hmset q a y", "hdel q c"} {
		mustRun(t, s, 10, words(next)...)
	}
	if was != "put q hash[a:1 b:2 c:3] 0" || shown(s.Changes()[0]) != was {
		t.Errorf("%s became %s", was, shown(s.Changes()[0]))
	}
	s.Back()
	if told(s) != told(begin()) {
		t.Errorf("Back: %s", told(s))
	}
}

// R4: the list of names is its caller's, its spare room too.
func TestNamesApart(t *testing.T) {
	one, other := Names(), Names()
	for l, i := one[:cap(one)], 0; i < len(l); i++ {
		l[i] = "spoilt"
	}
	if !slices.Equal(other, chapter()) || !slices.Equal(Names(), chapter()) {
		t.Errorf("Names: %q, %q", other, Names())
	}
	if r, ok := Run(begin(), 10, words("hlen h")); !ok || resp.Show(r) != "(integer) 3" {
		t.Errorf("hlen: %s, %v", resp.Show(r), ok)
	}
}
