package strcmd

import (
	"slices"
	"strings"
	"testing"

	"covenant/resp"
)

// requests is one of each command at least, done and refused.
func requests() []string {
	all := asking()
	for _, line := range right() {
		all = append(all, line)
	}
	return append(all, "MSET q 1 r 2 q 3", "msetnx q 1 r 2", "mset q 1 r", "SET late v GET px 5 XX", "set s v nx xx", "GETEX late PERSIST", "getex s PX 5", "bitop XOR q s late ones", "BITOP Not q s", "BITPOS ones 0 -1", "BitCount s 0 -1", "incr s", "incr list")
}

// R4: the words that are handed in are not changed, and what lies behind their end neither.
func TestHandedIn(t *testing.T) {
	for _, line := range requests() {
		room := append(words(line), "behind", "px", "5")
		was := slices.Clone(room)
		s := begin()
		Run(s, 10, room[:len(room)-3])
		Run(nil, 10, room[:len(room)-3])
		if !slices.Equal(room, was) {
			t.Errorf("%q became %q", was, room)
		}
	}
}

// R4: what lies behind the end of the words plays no part.
func TestBehindTheEnd(t *testing.T) {
	for _, line := range requests() {
		s, other := begin(), begin()
		room := append(words(line), "xx", "px", "5")
		r, ok := Run(s, 10, room[:len(room)-3])
		want, known := Run(other, 10, slices.Clip(words(line)))
		if ok != known || resp.Show(r) != resp.Show(want) || told(s) != told(other) {
			t.Errorf("%q: %s, %v, not %s, %v", line, resp.Show(r), ok, resp.Show(want), known)
		}
	}
}

// R4: the words are not kept: what is written over them later is seen neither in the keys nor in a reply.
func TestNotKept(t *testing.T) {
	for _, line := range requests() {
		args := words(line)
		s := begin()
		s.Mark()
		r, _ := Run(s, 10, args)
		was, shows, changes := told(s), resp.Show(r), shownAll(s.Changes())
		for i := range args {
			args[i] = "spoilt"
		}
		if told(s) != was || resp.Show(r) != shows || shownAll(s.Changes()) != changes {
			t.Errorf("%q: %s became %s", line, was, told(s))
		}
	}
}

// R4: the array that MGET hands out is its caller's, its spare room too.
func TestSeveralApart(t *testing.T) {
	s := begin()
	args := words("mget s q late list e")
	one, _ := Run(s, 10, args)
	other, _ := Run(s, 10, args)
	was, want := told(s), resp.Show(other)
	for l, i := one.List[:cap(one.List)], 0; i < len(l); i++ {
		l[i] = other
	}
	if resp.Show(other) != want || told(s) != was {
		t.Errorf("%s became %s", want, resp.Show(other))
	}
	if again, _ := Run(s, 10, args); resp.Show(again) != want {
		t.Errorf("mget: %s", resp.Show(again))
	}
}

// R4: a reply stays as it is, whatever is done to the key behind it.
func TestReplyStays(t *testing.T) {
	s := begin()
	texts := map[string]string{"get s": "hello", "getrange s 0 -1": "hello", "getex s": "hello", "set s v get nx": "hello"}
	for line, want := range texts {
		r, _ := Run(s, 10, words(line))
		for _, next := range []string{"setrange s 0 J", "setbit s 0 1", "append s x", "getdel s", "set s hello"} {
			Run(s, 10, words(next))
		}
		if r.Text != want {
			t.Errorf("%q became %q", line, r.Text)
		}
	}
}

// R4: the list of names is its caller's, its spare room too.
func TestNamesApart(t *testing.T) {
	one, other := Names(), Names()
	for l, i := one[:cap(one)], 0; i < len(l); i++ {
		l[i] = "spoilt"
	}
	if !slices.Equal(other, chapter()) || !slices.Equal(Names(), chapter()) {
		t.Errorf("Names: %q, %q", other, Names())
	}
	if r, ok := Run(begin(), 10, words("get s")); !ok || !strings.Contains(resp.Show(r), "hello") {
		t.Errorf("get: %s, %v", resp.Show(r), ok)
	}
}
