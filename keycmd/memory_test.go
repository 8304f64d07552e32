package keycmd

import (
	"slices"
	"testing"

	"covenant/api"
	"covenant/resp"
)

// requests is one of each command at least, done and refused.
func requests() []string {
	all := append(asking(), errors()...)
	for _, line := range right() {
		all = append(all, line)
	}
	return append(all, "DEL a late list", "RENAME led q", "copy zset q REPLACE", "COPY late a replace REPLACE", "EXPIRE late 5 XX Gt", "pexpireat a 5 LT", "SCAN 0 MATCH L* COUNT 3", "RESTORE a 5 "+one+" Replace AbsTTL", "KEYS *")
}

// R4: the words that are handed in are not changed, and what lies behind their end neither.
func TestHandedIn(t *testing.T) {
	for _, line := range requests() {
		room := append(words(line), "behind", "COUNT", "5")
		was := slices.Clone(room)
		s := begin()
		Run(s, 10, room[:len(room)-3])
		Run(nil, 10, room[:len(room)-3])
		if !slices.Equal(room, was) {
			t.Errorf("%q became %q", was, room)
		}
	}
}

// R4: what lies behind the end of the words plays no part.
func TestBehindTheEnd(t *testing.T) {
	for _, line := range requests() {
		s, other := begin(), begin()
		room := append(words(line), "5", "replace", "xx")
		r, ok := Run(s, 10, room[:len(room)-3])
		want, known := Run(other, 10, slices.Clip(words(line)))
		if ok != known || resp.Show(r) != resp.Show(want) || told(s) != told(other) {
			t.Errorf("%q: %s, %v, not %s, %v", line, resp.Show(r), ok, resp.Show(want), known)
		}
	}
}

// R4: the words are not kept: what is written over them later is seen neither in the keys nor in a reply.
func TestNotKept(t *testing.T) {
	for _, line := range requests() {
		args := words(line)
		s := begin()
		s.Mark()
		r, _ := Run(s, 10, args)
		was, shows, changes := told(s), resp.Show(r), shownAll(s.Changes())
		for i := range args {
			args[i] = "spoilt"
		}
		if told(s) != was || resp.Show(r) != shows || shownAll(s.Changes()) != changes {
			t.Errorf("%q: %s became %s", line, was, told(s))
		}
	}
}

// spoil writes over a list of replies, its spare room, and the lists within it.
func spoil(l []api.Reply) {
	l = l[:cap(l)]
	for i := range l {
		spoil(l[i].List)
		l[i] = api.Reply{Kind: api.ReplySimple, Text: "spoilt"}
	}
}

// R4: the arrays that KEYS and SCAN hand out are their caller's, their spare room and the array within, too.
func TestArraysApart(t *testing.T) {
	s := begin()
	was := told(s)
	for _, line := range []string{"keys *", "keys l*", "scan 0", "scan 0 count 3", "scan >a match l*", "scan >zz"} {
		one := mustRun(t, s, 10, words(line)...)
		other := mustRun(t, s, 10, words(line)...)
		want := resp.Show(other)
		spoil(one.List)
		if again := mustRun(t, s, 10, words(line)...); resp.Show(other) != want || resp.Show(again) != want || told(s) != was {
			t.Errorf("%q: %s became %s, %s", line, want, resp.Show(other), resp.Show(again))
		}
	}
	// The one list of an answer is written over without a trace in the other.
	r := mustRun(t, s, 10, "scan", "0", "count", "2")
	keys := resp.Show(r.List[1])
	outer := r.List[:cap(r.List)]
	for i := range outer {
		if i != 1 {
			outer[i] = api.Reply{}
		}
	}
	if resp.Show(r.List[1]) != keys {
		t.Errorf("%s became %s", keys, resp.Show(r.List[1]))
	}
}

// R4: a reply stays as it is, whatever is done to the keys behind it.
func TestReplyStays(t *testing.T) {
	for _, line := range []string{"keys *", "scan 0", "scan 0 count 2", "dump list", "dump zset", "dump a", "type hash", "echo a"} {
		s := begin()
		r := mustRun(t, s, 10, words(line)...)
		was := resp.Show(r)
		for _, next := range []string{"rename a q", "del list", "copy zset hash replace", "persist late", "restore e 0 " + one + " replace", "flushall"} {
			mustRun(t, s, 10, words(next)...)
		}
		if resp.Show(r) != was {
			t.Errorf("%q: %s became %s", line, was, resp.Show(r))
		}
	}
}

// R4: the list of names is its caller's, its spare room too.
func TestNamesApart(t *testing.T) {
	one, other := Names(), Names()
	for l, i := one[:cap(one)], 0; i < len(l); i++ {
		l[i] = "spoilt"
	}
	if !slices.Equal(other, chapter()) || !slices.Equal(Names(), chapter()) {
		t.Errorf("Names: %q, %q", other, Names())
	}
	if r, ok := Run(begin(), 10, words("ping")); !ok || resp.Show(r) != "PONG" {
		t.Errorf("ping: %s, %v", resp.Show(r), ok)
	}
}
