package listcmd

import (
	"slices"
	"testing"

	"covenant/api"
	"covenant/resp"
)

// requests is one of each command at least, done and refused.
func requests() []string {
	all := append(asking(), errors()...)
	for _, name := range chapter() {
		all = append(all, right()[name])
	}
	return append(all, "LPUSH q x y z", "RPUSH late x y z", "LPUSHX l x y", "RPUSHX l x y", "LPOP l 2", "RPOP l 9", "LSET late -1 x", "LREM l -1 b", "LTRIM l 5 9", "LINSERT l AFTER b x", "LMOVE l l LEFT RIGHT", "LMOVE one q RIGHT LEFT", "RPOPLPUSH l q", "RPOPLPUSH l l", "LPOS l a RANK -1 COUNT 0 MAXLEN 9")
}

// R4: the words that are handed in are not changed, and what lies behind their end neither.
func TestHandedIn(t *testing.T) {
	for _, line := range requests() {
		room := append(words(line), "behind", "COUNT", "5")
		was := slices.Clone(room)
		s := begin()
		Run(s, 10, room[:len(room)-3])
		Run(nil, 10, room[:len(room)-3])
		if !slices.Equal(room, was) {
			t.Errorf("%q became %q", was, room)
		}
	}
}

// R4: what lies behind the end of the words plays no part.
func TestBehindTheEnd(t *testing.T) {
	for _, line := range requests() {
		s, other := begin(), begin()
		room := append(words(line), "5", "count", "1")
		r, ok := Run(s, 10, room[:len(room)-3])
		want, known := Run(other, 10, slices.Clip(words(line)))
		if ok != known || resp.Show(r) != resp.Show(want) || told(s) != told(other) {
			t.Errorf("%q: %s, %v, not %s, %v", line, resp.Show(r), ok, resp.Show(want), known)
		}
	}
}

// R4: the words are not kept: what is written over them later is seen neither in the keys nor in a reply.
func TestNotKept(t *testing.T) {
	for _, line := range requests() {
		args := words(line)
		s := begin()
		s.Mark()
		r, _ := Run(s, 10, args)
		was, shows, changes := told(s), resp.Show(r), shownAll(s.Changes())
		for i := range args {
			args[i] = "spoilt"
		}
		if told(s) != was || resp.Show(r) != shows || shownAll(s.Changes()) != changes {
			t.Errorf("%q: %s became %s", line, was, told(s))
		}
	}
}

// spoil writes over a list of replies and its spare room.
func spoil(l []api.Reply) {
	l = l[:cap(l)]
	for i := range l {
		l[i] = api.Reply{Kind: api.ReplySimple, Text: "spoilt"}
	}
}

// R4: the arrays that are handed out are their caller's, their spare room too.
func TestArraysApart(t *testing.T) {
	for _, line := range []string{"lrange l 0 -1", "lrange l 1 3", "lrange q 0 -1", "lpop l 3", "rpop l 2", "lpop l 0", "rpop l 9", "lpos l a count 0", "lpos l b count 1", "lpos l x count 0"} {
		s, other := begin(), begin()
		r := mustRun(t, s, 10, words(line)...)
		again := mustRun(t, other, 10, words(line)...)
		was, want := told(s), resp.Show(again)
		spoil(r.List)
		if resp.Show(again) != want || told(s) != was || told(other) != was {
			t.Errorf("%q: %s became %s, %s", line, want, resp.Show(again), told(s))
		}
	}
	s := begin()
	for range 2 {
		one := mustRun(t, s, 10, "lrange", "l", "0", "-1")
		other := mustRun(t, s, 10, "lrange", "l", "0", "-1")
		spoil(one.List)
		if resp.Show(other) != `["a", "b", "c", "a", "b"]` {
			t.Errorf("lrange: %s", resp.Show(other))
		}
	}
}

// R4: a reply stays as it is, whatever is done to the keys behind it.
func TestReplyStays(t *testing.T) {
	for _, line := range []string{"lrange l 0 -1", "lrange late 0 -1", "lpop l 2", "rpop l 3", "lindex l 2", "lpos l a count 0", "lpop l"} {
		s := begin()
		r := mustRun(t, s, 10, words(line)...)
		was := resp.Show(r)
		for _, next := range []string{"lset l 0 z", "lset l -1 y", "rpush l x y z", "lpush l x y z", "lrem l 0 a", "linsert l before z w", "lmove l late left right", "ltrim l 1 1", "lpop l 9", "rpush l n"} {
			mustRun(t, s, 10, words(next)...)
		}
		if resp.Show(r) != was {
			t.Errorf("%q: %s became %s", line, was, resp.Show(r))
		}
	}
}

// What a mark noted of a list stays as it is, whatever is done to the list behind it.
func TestChangesStay(t *testing.T) {
	s := begin()
	s.Mark()
	mustRun(t, s, 10, "rpush", "q", "a", "b", "c")
	was := shownAll(s.Changes())
	for _, next := range []string{"lset q 0 z", "lrem q 1 b", "linsert q after z w", "rpush q y", "lmove q q left right", "ltrim q 0 1"} {
		mustRun(t, s, 10, words(next)...)
	}
	if was != "put q list[a b c] 0" || shown(s.Changes()[0]) != was {
		t.Errorf("%s became %s", was, shown(s.Changes()[0]))
	}
	s.Back()
	if told(s) != told(begin()) {
		t.Errorf("Back: %s", told(s))
	}
}

// R4: the list of names is its caller's, its spare room too.
func TestNamesApart(t *testing.T) {
	one, other := Names(), Names()
	for l, i := one[:cap(one)], 0; i < len(l); i++ {
		l[i] = "spoilt"
	}
	if !slices.Equal(other, chapter()) || !slices.Equal(Names(), chapter()) {
		t.Errorf("Names: %q, %q", other, Names())
	}
	if r, ok := Run(begin(), 10, words("llen l")); !ok || resp.Show(r) != "(integer) 5" {
		t.Errorf("llen: %s, %v", resp.Show(r), ok)
	}
}
