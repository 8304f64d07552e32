package hashcmd

import (
	"strings"
	"testing"

	"covenant/api"
	"covenant/resp"
	"covenant/space"
)

// R8: what is wrong with the words is told from the left, then another kind, then what lies in a hash.
func TestErrorsInTheirOrder(t *testing.T) {
	fails(t, 10, api.TextArity+"hset", "hset string a 1 b", lengths("hset h M 1 a"), lengths("hset zset a M b"))
	fails(t, 10, api.TextArity+"hmset", "hmset string a 1 b", lengths("hmset h M 1 a"))
	fails(t, 10, api.TextNumber, "hincrby string a x", "hincrby h a x", "hincrby h b x", lengths("hincrby q M x"), "hscan string 0 count x", "hscan h 0 count x foo")
	fails(t, 10, api.TextCursor, "hscan string 1", "hscan h 1 count 0", "hscan h x foo", "hscan h x count x", "hscan string x match")
	fails(t, 10, api.TextSyntax, "hscan string 0 count 0", "hscan h 0 foo count x", "hscan h 0 count 0 count x", "hscan string 0 match")
	fails(t, 10, api.TextWrong, "hincrby string a 1", "hset string a 1", "hget text a", "hscan string 0 count 1", lengths("hset list M M"), lengths("hincrby set M 9223372036854775807"))
	fails(t, 10, api.TextOverflow, "hincrby h a 9223372036854775807")
}

// asking is requests that are answered, and by which nothing changes.
func asking() []string {
	return []string{
		"hget h a", "hget late q", "hget h q", "hget q a", "hget over a", "hmget h a q", "hmget late p q", "hmget q a", "hmget over a b", "hexists h a", "hexists h q", "hexists over a", "hstrlen h c", "hstrlen late q", "hstrlen past a",
		"hlen h", "hlen late", "hlen q", "hlen over", "hkeys h", "hkeys late", "hkeys q", "hkeys over", "hvals h", "hvals late", "hvals past", "hgetall h", "hgetall late", "hgetall q", "hgetall over",
		"hscan h 0", "hscan h >a", "hscan late 0 count 1", "hscan late > match q", "hscan q 0", "hscan over 0 match a count 1",
		"hset h a 1", "hset late p 0 p 7", "hmset h b x c -3", "hmset late q ''", "hsetnx h a 2", "hsetnx late p 7", "hdel h q", "hdel late x y", "hdel q a", "hdel over a b", "hincrby h a 0", "hincrby late p 0",
	}
}

// errors is requests that are answered by an error each.
func errors() []string {
	return []string{
		"hset h a 1 b", "hset late p 1 q", "hset string a 1", "hmset h a 1 b", "hmset q a 1 b", "hmset list a 1", "hsetnx set a 1", "hdel zset a", "hdel text a b", "hincrby h a x", "hincrby h b 1", "hincrby late q 1", "hincrby h a 9223372036854775807", "hincrby h c -9223372036854775807", "hincrby string a 1",
		"hget string a", "hmget list a b", "hexists set a", "hstrlen zset a", "hlen text", "hkeys string", "hvals list", "hgetall seta", "hscan string 0", "hscan h 1", "hscan late 0 count 0", "hscan h 0 count x", "hscan h 0 match", "hscan late >p foo 1",
	}
}

// What only asks, what leaves the fields as they were, and what is answered by an error, touches nothing: no value, no deadline, no version, not the counter, with a mark or without.
func TestNothingIsTouched(t *testing.T) {
	for i, line := range append(asking(), errors()...) {
		fails := i >= len(asking())
		s := begin()
		was, version := told(s), s.Version("late")
		r, ok := Run(s, 10, words(line))
		if !ok || (r.Kind == api.ReplyError) != fails || told(s) != was || s.Version("late") != version {
			t.Errorf("%q: %s, %v: %s became %s", line, resp.Show(r), ok, was, told(s))
		}
		if _, _, changes := done(s, 10, words(line)); changes != "" || told(s) != was {
			t.Errorf("%q: changes: %s", line, changes)
		}
	}
}

// Each change is one touch of the key, however many fields it is about.
func TestOneTouch(t *testing.T) {
	for _, line := range []string{"hset h d 4 e 5 f 6", "hmset late p 1 q 2 r 3", "hsetnx h d 1", "hdel h a b", "hdel h a b c", "hincrby h a 1", "hset q a 1 b 2", "hset over a 1 b 2"} {
		s := begin()
		was := s.Counter()
		if mustRun(t, s, 10, words(line)...); s.Counter() != was+1 {
			t.Errorf("%q: the counter went from %d to %d", line, was, s.Counter())
		}
	}
}

// A key that is over stays there, with its value and version, until something is put there.
func TestOverStays(t *testing.T) {
	for _, line := range []string{"hget over a", "hmget over a b", "hexists over a", "hstrlen over a", "hlen over", "hkeys over", "hvals over", "hgetall over", "hscan over 0", "hdel over a", "hdel over a b", "hset over a 1 b", "hincrby over a x", lengths("hset over a M"), lengths("hincrby over M 1")} {
		s := begin()
		version := s.Version("over")
		Run(s, 10, words(line))
		if !s.Over("over", 10) || s.Version("over") != version {
			t.Errorf("%.300q: over %v, version %d from %d", line, s.Over("over", 10), s.Version("over"), version)
		}
	}
}

// An error leaves what stood behind a mark already as it is.
func TestErrorsBehindAMark(t *testing.T) {
	s := begin()
	s.Mark()
	mustRun(t, s, 10, "hset", "q", "x", "y")
	mustRun(t, s, 10, "hdel", "one", "x")
	mustRun(t, s, 10, "hincrby", "late", "p", "1")
	was := shownAll(s.Changes())
	for _, line := range []string{"hset string x 1", "hset q x 1 y", "hmset late p 1 q", "hincrby q x 1", "hincrby late p x", "hincrby late p 9223372036854775807", "hset q y M", "hmset late M 1", "hsetnx q z M", "hincrby one M 1", "hscan q 0 count 0"} {
		if r, ok := Run(s, 10, words(lengths(line))); !ok || r.Kind != api.ReplyError || shownAll(s.Changes()) != was {
			t.Errorf("%s: %s, %v, changes: %.300s", line, resp.Show(r), ok, shownAll(s.Changes()))
		}
	}
	if was != `put q hash[x:y] 0, drop one, put late hash[p:8 q:] 1000` {
		t.Errorf("changes: %s", was)
	}
}

// P20.5: a key whose fields are all dropped is there no more, and its deadline neither: what is laid there later has none.
func TestEmptyIsAbsent(t *testing.T) {
	for key, names := range map[string]string{"h": "a b c", "one": "x", "late": "q p", "soon": "r"} {
		for _, again := range []string{"hset K y 1", "hmset K y 1 z 2", "hsetnx K y 1", "hincrby K y 1"} {
			s := begin()
			for _, name := range strings.Fields(names) {
				if _, there := s.Get(key, 10); !there {
					t.Errorf("%s is gone too early", key)
				}
				mustRun(t, s, 10, "hdel", key, name)
			}
			other := begin()
			mustRun(t, other, 10, words("hdel "+key+" "+names)...)
			for _, s := range []*space.Space{s, other} {
				if due, there := s.Due(key, 0); due != 0 || there || s.Version(key) != 0 {
					t.Errorf("%s is there, its deadline %d, its version %d", key, due, s.Version(key))
				}
			}
			mustRun(t, s, 10, words(strings.ReplaceAll(again, "K", key))...)
			if due, there := s.Due(key, 10); due != 0 || !there {
				t.Errorf("%s has the deadline %d", key, due)
			}
		}
	}
}

// A hash that is changed keeps its deadline, by whatever command.
func TestDeadlineStays(t *testing.T) {
	for _, line := range []string{"hset late p 8", "hset late a 1 b 2", "hmset late p 8", "hsetnx late a 1", "hdel late p", "hdel late q x", "hincrby late p 1", "hincrby late r 0"} {
		s := begin()
		version := s.Version("late")
		r := mustRun(t, s, 10, words(line)...)
		if due, there := s.Due("late", 10); due != 1000 || !there || s.Version("late") == version || r.Kind == api.ReplyError {
			t.Errorf("%q: %s, deadline %d, version %d", line, resp.Show(r), due, s.Version("late"))
		}
	}
}
