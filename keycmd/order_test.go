package keycmd

import (
	"strings"
	"testing"

	"covenant/api"
	"covenant/resp"
)

// R8: what is wrong with the words is told from the left, and ahead of what is there.
func TestErrorsFromTheLeft(t *testing.T) {
	fails(t, 10, api.TextNumber, "expire q x", "expire a x foo", "pexpire over x nx gt", "expireat a x nx", "restore a x x foo", "restore a x "+one+" foo", "scan 0 count x foo", "scan 0 count x match")
	fails(t, 10, api.TextDeadline, "expire a 9007199254741 foo", "pexpireat q 9007199254740993 nx xx", "restore a -1 x foo", "restore a -1 "+one, "restore a 9007199254740993 x", "restore q 9007199254740993 x foo")
	fails(t, 10, api.TextBytes, "restore a 0 x foo", "restore a 0 x", "restore a 9007199254740992 x", "restore a 9007199254740992 x foo")
	fails(t, 10, api.TextSyntax, "restore a 9007199254740992 "+one+" foo", "restore a 0 "+one+" foo", "copy q r foo", "expire q 1 foo", "expire late 1 nx foo", "scan 0 foo count x", "scan 0 count 0 count x", "scan 0 match")
	fails(t, 10, api.TextDeadline, "restore a 9007199254740992 "+one)
	fails(t, 10, api.TextBusyKey, "restore a 9007199254740992 "+one+" absttl", "restore a 0 "+one)
	fails(t, 10, api.TextCursor, "scan 1 foo", "scan 1 count x", "scan x count 0", "scan '' match")
}

// asking is requests that are answered, and by which nothing changes.
func asking() []string {
	return []string{
		"dbsize", "dump a", "dump late", "dump list", "dump q", "dump over", "echo a", "exists a a q late over", "expiretime a", "expiretime late", "expiretime q", "expiretime over",
		"keys *", "keys q", "pexpiretime a", "pexpiretime late", "pexpiretime over", "ping", "ping a", "pttl a", "pttl late", "pttl q", "pttl past", "scan 0", "scan 0 count 1", "scan >a match l* count 2", "scan >zz",
		"ttl a", "ttl late", "ttl q", "ttl over", "type a", "type late", "type zset", "type q", "type over",
		"del q", "unlink over past q", "rename a a", "rename late late", "renamenx a late", "renamenx a a", "copy q a replace", "copy a a replace", "copy a late", "copy over q",
		"expire q 1", "pexpire over -1", "expire late 1 nx", "expire a 1 gt", "expire a 1 xx", "pexpireat late 1000 lt", "pexpireat late 1000 gt", "persist a", "persist q", "persist over", "persist list",
		"restore q 1 " + one + " absttl", "restore over 10 " + one + " absttl replace",
	}
}

// errors is requests that are answered by an error each.
func errors() []string {
	return []string{
		"ping a b", "rename q a", "rename over a", "renamenx q a", "copy a q foo", "expire a x", "pexpire a 9007199254741000", "expireat late 1 nx xx", "pexpireat late 5 foo",
		"scan 1", "scan 0 foo", "scan 0 count x", "scan 0 count 0", "restore q x x", "restore q -1 x", "restore q 0 x", "restore q 0 " + one + " foo", "restore q 9007199254740992 " + one, "restore late 0 " + one,
	}
}

// P18.8: what only asks, what says that it does nothing, and what is answered by an error, touches nothing: no value, no deadline, no version, not the counter, with a mark or without.
func TestNothingIsTouched(t *testing.T) {
	for i, line := range append(asking(), errors()...) {
		fails := i >= len(asking())
		for _, spelt := range []string{line, strings.ToUpper(line[:3]) + line[3:]} {
			s := begin()
			was, version := told(s), s.Version("late")
			r, ok := Run(s, 10, words(spelt))
			if !ok || (r.Kind == api.ReplyError) != fails || told(s) != was || s.Version("late") != version {
				t.Errorf("%q: %s, %v: %s became %s", spelt, resp.Show(r), ok, was, told(s))
			}
			if _, _, changes := done(s, 10, words(spelt)); changes != "" || told(s) != was {
				t.Errorf("%q: changes: %s", spelt, changes)
			}
		}
	}
}

// A key that is over stays there, with its value and version, until something is put there.
func TestOverStays(t *testing.T) {
	for _, line := range []string{"del over", "unlink over", "exists over", "type over", "rename over q", "renamenx over q", "copy over q", "expire over -1", "persist over", "ttl over", "dump over", "keys *", "scan 0", "dbsize", "restore over 10 " + one + " absttl replace"} {
		s := begin()
		version := s.Version("over")
		Run(s, 10, words(line))
		if !s.Over("over", 10) || s.Version("over") != version {
			t.Errorf("%q: over %v, version %d from %d", line, s.Over("over", 10), s.Version("over"), version)
		}
	}
}

// P18.8: an error leaves what stood behind a mark already as it is.
func TestErrorsBehindAMark(t *testing.T) {
	s := begin()
	s.Mark()
	mustRun(t, s, 10, "rename", "a", "q")
	mustRun(t, s, 10, "persist", "late")
	was := shownAll(s.Changes())
	for _, line := range []string{"ping a b", "rename a q", "renamenx a q", "copy q a foo", "expire q x", "expire late 1 nx gt", "scan 1", "restore q 0 " + one, "restore a 0 x"} {
		if r, ok := Run(s, 10, words(line)); !ok || r.Kind != api.ReplyError || shownAll(s.Changes()) != was {
			t.Errorf("%q: %s, %v, changes: %s", line, resp.Show(r), ok, shownAll(s.Changes()))
		}
	}
	if was != `put q "1" 0, drop a, due late 0` {
		t.Errorf("changes: %s", was)
	}
}
