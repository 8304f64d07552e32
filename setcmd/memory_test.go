package setcmd

import (
	"slices"
	"testing"

	"covenant/api"
	"covenant/resp"
)

// requests is one of each command at least, done and refused.
func requests() []string {
	all := append(asking(), errors()...)
	for _, name := range chapter() {
		all = append(all, right()[name])
	}
	return append(all, "SADD q y x y", "SADD late z a", "SREM s c a c", "SREM one x", "SPOP s 2", "SMOVE late s p", "SMISMEMBER s c b a", "SINTER s t s", "SUNIONSTORE s t late s", "SDIFFSTORE text t s", "SSCAN s >a MATCH * COUNT 1")
}

// R4: the words that are handed in are not changed, and what lies behind their end neither.
func TestHandedIn(t *testing.T) {
	for _, line := range requests() {
		room := append(words(line), "behind", "COUNT", "5")
		was := slices.Clone(room)
		s := begin()
		Run(s, 10, room[:len(room)-3])
		Run(nil, 10, room[:len(room)-3])
		if !slices.Equal(room, was) {
			t.Errorf("%q became %q", was, room)
		}
	}
}

// R4: what lies behind the end of the words plays no part.
func TestBehindTheEnd(t *testing.T) {
	for _, line := range requests() {
		s, other := begin(), begin()
		room := append(words(line), "count", "1", "5")
		r, ok := Run(s, 10, room[:len(room)-3])
		want, known := Run(other, 10, slices.Clip(words(line)))
		if ok != known || resp.Show(r) != resp.Show(want) || told(s) != told(other) {
			t.Errorf("%q: %s, %v, not %s, %v", line, resp.Show(r), ok, resp.Show(want), known)
		}
	}
}

// R4: the words are not kept: what is written over them later is seen neither in the keys nor in a reply.
func TestNotKept(t *testing.T) {
	for _, line := range requests() {
		args := words(line)
		s := begin()
		s.Mark()
		r, _ := Run(s, 10, args)
		was, shows, changes := told(s), resp.Show(r), shownAll(s.Changes())
		for i := range args {
			args[i] = "spoilt"
		}
		if told(s) != was || resp.Show(r) != shows || shownAll(s.Changes()) != changes {
			t.Errorf("%q: %s became %s", line, was, told(s))
		}
	}
}

// spoil writes over a list of replies, those within, and all spare room.
func spoil(l []api.Reply) {
	l = l[:cap(l)]
	for i := range l {
		spoil(l[i].List)
		l[i] = api.Reply{Kind: api.ReplySimple, Text: "spoilt"}
	}
}

// R4: the arrays that are handed out are their caller's, their spare room too.
func TestArraysApart(t *testing.T) {
	for _, line := range []string{"smembers s", "smembers q", "smismember s a b c", "smismember q a b", "sinter s", "sinter s t", "sunion s t", "sdiff s t", "sunion q", "spop q 2", "spop s 0", "sscan s 0", "sscan s >a count 1", "sscan q 0"} {
		s, other := begin(), begin()
		r := mustRun(t, s, 10, words(line)...)
		same := mustRun(t, s, 10, words(line)...)
		again := mustRun(t, other, 10, words(line)...)
		was, want := told(s), resp.Show(again)
		spoil(r.List)
		if resp.Show(same) != want || resp.Show(again) != want || told(s) != was || told(other) != was {
			t.Errorf("%q: %s became %s, %s, %s", line, want, resp.Show(same), resp.Show(again), told(s))
		}
	}
}

// R4: what SPOP hands out shares no memory with what is left.
func TestPoppedApart(t *testing.T) {
	for _, line := range []string{"spop s 1", "spop s 2", "spop s 3", "spop late 1"} {
		s := begin()
		r := mustRun(t, s, 10, words(line)...)
		was := told(s)
		spoil(r.List)
		if told(s) != was {
			t.Errorf("%q: %s became %s", line, was, told(s))
		}
	}
}

// R4: the two lists of one answer share no memory.
func TestListsOfAScanApart(t *testing.T) {
	for _, line := range []string{"sscan s 0", "sscan s 0 count 1", "sscan s 0 match a", "sscan q 0"} {
		r := mustRun(t, begin(), 10, words(line)...)
		next, elements := r.List[0], resp.Show(r.List[1])
		held := r.List[1]
		spare := r.List[:cap(r.List)]
		for i := range spare {
			spare[i] = api.Reply{}
		}
		if resp.Show(held) != elements || next.Kind != api.ReplyBulk {
			t.Errorf("%q: %s became %s", line, elements, resp.Show(held))
		}
	}
}

// R4: a reply stays as it is, whatever is done to the keys behind it.
func TestReplyStays(t *testing.T) {
	for _, line := range []string{"smembers s", "smembers late", "smismember s a b", "sinter s", "sinter s t", "sunion s t late", "sdiff s t", "sscan s 0", "spop s 1"} {
		s := begin()
		r := mustRun(t, s, 10, words(line)...)
		was := resp.Show(r)
		for _, next := range []string{"sadd s A z", "srem s b", "smove s late c", "sunionstore s late t", "spop t 2", "srem late p", "sadd s 0", "spop s 9"} {
			mustRun(t, s, 10, words(next)...)
		}
		if resp.Show(r) != was {
			t.Errorf("%q: %s became %s", line, was, resp.Show(r))
		}
	}
}

// What a mark noted of a set stays as it is, whatever is done to the sets behind it.
func TestChangesStay(t *testing.T) {
	s := begin()
	s.Mark()
	mustRun(t, s, 10, "sadd", "q", "b", "a", "c")
	mustRun(t, s, 10, "sunionstore", "p", "q")
	was := shownAll(s.Changes())
	for _, next := range []string{"sadd q 0", "srem q b", "spop q", "smove q p a", "smove p q a", "sdiffstore q p q", "sunionstore p q", "spop p 9"} {
		mustRun(t, s, 10, words(next)...)
	}
	if was != "put q set[a b c] 0, put p set[a b c] 0" || shownAll(s.Changes()[:2]) != was {
		t.Errorf("%s became %s", was, shownAll(s.Changes()[:2]))
	}
	s.Back()
	if told(s) != told(begin()) {
		t.Errorf("Back: %s", told(s))
	}
}

// R4: the list of names is its caller's, its spare room too.
func TestNamesApart(t *testing.T) {
	one, other := Names(), Names()
	for l, i := one[:cap(one)], 0; i < len(l); i++ {
		l[i] = "spoilt"
	}
	if !slices.Equal(other, chapter()) || !slices.Equal(Names(), chapter()) {
		t.Errorf("Names: %q, %q", other, Names())
	}
	if r, ok := Run(begin(), 10, words("scard s")); !ok || resp.Show(r) != "(integer) 3" {
		t.Errorf("scard: %s, %v", resp.Show(r), ok)
	}
}
