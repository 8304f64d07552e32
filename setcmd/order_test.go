package setcmd

import (
	"strings"
	"testing"

	"covenant/api"
	"covenant/resp"
	"covenant/space"
)

// R8: what is wrong with the words is told from the left, then another kind, then what would be too long.
func TestErrorsInTheirOrder(t *testing.T) {
	fails(t, 10, api.TextNumber, "spop string x", "spop zset -1", "spop s x", "spop q -1", "sscan string 0 count x", "sscan s 0 count x foo")
	fails(t, 10, api.TextCursor, "sscan string 1", "sscan s 1 count 0", "sscan s x foo", "sscan s x count x", "sscan string x match")
	fails(t, 10, api.TextSyntax, "spop string 1 1", "spop s x x", "spop zset -1 1", "sscan string 0 count 0", "sscan s 0 foo count x", "sscan s 0 count 0 count x", "sscan string 0 match", "sscan list 0 match a match a")
	fails(t, 10, api.TextWrong, "spop string 1", "spop text 0", "sadd hash a", "sscan string 0 count 1", lengths("sadd list M M"), lengths("smove zset s M"), lengths("smove s zset M"))
	fails(t, 10, api.TextLong, lengths("sadd s M"))
}

// asking is requests that are answered, and by which nothing changes.
func asking() []string {
	return []string{
		"scard s", "scard late", "scard q", "scard over", "sismember s a", "sismember late p", "sismember s q", "sismember over a", "smismember s a q", "smismember late p b", "smismember q a", "smismember over a b",
		"smembers s", "smembers late", "smembers q", "smembers over", "sinter s t", "sinter late s", "sinter s q over", "sunion s t", "sunion late over q", "sdiff s t", "sdiff late s over", "sdiff q s",
		"sscan s 0", "sscan s >a", "sscan late 0 count 1", "sscan late > match q", "sscan q 0", "sscan over 0 match a count 1",
		"sadd s a", "sadd late p b p", "srem s q", "srem late x y", "srem q a", "srem over a b", "spop q", "spop over", "spop s 0", "spop late 0", "spop q 3", "spop past 1",
		"smove s t q", "smove late s q", "smove q s a", "smove over late a", "smove s s a", "smove late late p", "smove one one x", "smove s s q", "sinterstore q s one", "sunionstore q q over", "sdiffstore over s s",
	}
}

// errors is requests that are answered by an error each.
func errors() []string {
	return []string{
		"sadd string a", "srem list a", "sadd zset a b", "srem text q", "spop string", "spop hash 1", "spop s -1", "spop late x", "spop late 1 1", "spop q x", "smove s string a", "smove string s a", "smove late list p", "smove q zset a",
		"scard string", "sismember list a", "smismember hash a b", "smembers zset", "sinter s string", "sunion late list", "sdiff s row", "sinterstore late s string", "sunionstore s zset", "sdiffstore string late text",
		"sscan string 0", "sscan s 1", "sscan late 0 count 0", "sscan s 0 count x", "sscan s 0 match", "sscan late >p foo 1", "sscan late 0 count 1 count 1",
	}
}

// What only asks, what leaves the sets as they were, and what is answered by an error, touches nothing: no value, no deadline, no version, not the counter, with a mark or without.
func TestNothingIsTouched(t *testing.T) {
	for i, line := range append(asking(), errors()...) {
		fails := i >= len(asking())
		s := begin()
		was, version := told(s), s.Version("late")
		r, ok := Run(s, 10, words(line))
		if !ok || (r.Kind == api.ReplyError) != fails || told(s) != was || s.Version("late") != version {
			t.Errorf("%q: %s, %v: %s became %s", line, resp.Show(r), ok, was, told(s))
		}
		if _, _, changes := done(s, 10, words(line)); changes != "" || told(s) != was {
			t.Errorf("%q: changes: %s", line, changes)
		}
	}
}

// Each set that is changed is touched once, however many elements it is about.
func TestTouches(t *testing.T) {
	for line, touches := range map[string]uint64{
		"sadd s d e f": 1, "sadd q b a": 1, "sadd over a b": 1, "srem s a b": 1, "srem s a b c": 1, "spop s": 1, "spop s 2": 1, "spop s 9": 1, "spop one": 1,
		"smove s t a": 2, "smove s t b": 1, "smove one t x": 2, "smove s q a": 2, "sunionstore q s t": 1, "sinterstore s s": 1, "sdiffstore late s s": 1,
	} {
		s := begin()
		was := s.Counter()
		if mustRun(t, s, 10, words(line)...); s.Counter() != was+touches {
			t.Errorf("%q: the counter went from %d to %d", line, was, s.Counter())
		}
	}
}

// A key that is over stays there, with its value and version, until something is put there.
func TestOverStays(t *testing.T) {
	for _, line := range []string{
		"scard over", "sismember over a", "smismember over a b", "smembers over", "sinter over s", "sunion over s", "sdiff over s", "sdiff s over", "sscan over 0", "srem over a", "srem over a b", "spop over", "spop over 2", "smove over s a", "smove over over a", "smove s over q", lengths("sadd over M"),
		"sinterstore q over s", "sunionstore q over s", "sdiffstore q s over", "sinterstore over s one", "sunionstore over over", "sdiffstore over over s",
	} {
		s := begin()
		version := s.Version("over")
		Run(s, 10, words(line))
		if !s.Over("over", 10) || s.Version("over") != version {
			t.Errorf("%.300s: over %v, version %d from %d", line, s.Over("over", 10), s.Version("over"), version)
		}
	}
}

// An error leaves what stood behind a mark already as it is.
func TestErrorsBehindAMark(t *testing.T) {
	s := begin()
	s.Mark()
	mustRun(t, s, 10, "sadd", "q", "x", "y")
	mustRun(t, s, 10, "srem", "one", "x")
	mustRun(t, s, 10, "smove", "late", "s", "p")
	was := shownAll(s.Changes())
	for _, line := range []string{"sadd string x", "sadd q M", "sadd late a M", "sadd one M", "srem list a", "spop q x", "spop q 1 1", "spop hash", "smove q string x", "smove zset q a", "sunionstore q s text", "sinterstore late q string", "sscan q 0 count 0"} {
		if r, ok := Run(s, 10, words(lengths(line))); !ok || r.Kind != api.ReplyError || shownAll(s.Changes()) != was {
			t.Errorf("%s: %s, %v, changes: %.300s", line, resp.Show(r), ok, shownAll(s.Changes()))
		}
	}
	if was != `put q set[x y] 0, drop one, put late set[b] 1000, put s set[a b c p] 0` {
		t.Errorf("changes: %s", was)
	}
}

// A key whose last element goes is there no more, and its deadline neither: what is laid there later has none.
func TestEmptyIsAbsent(t *testing.T) {
	for key, elements := range map[string]string{"s": "a b c", "one": "x", "late": "b p", "soon": "r"} {
		one := strings.Fields(elements)
		ways := map[string][]string{"srem at once": {"srem K " + elements}, "spop at once": {"spop K 9"}, "nothing is stored": {"sdiffstore K K K"}}
		for _, element := range one {
			ways["srem"] = append(ways["srem"], "srem K "+element)
			ways["spop"] = append(ways["spop"], "spop K")
			ways["spop 1"] = append(ways["spop 1"], "spop K 1")
			ways["smove"] = append(ways["smove"], "smove K elsewhere "+element)
		}
		for way, lines := range ways {
			for _, again := range []string{"sadd K y", "smove t K d", "sunionstore K t"} {
				s := begin()
				for _, line := range lines {
					if _, there := s.Get(key, 10); !there {
						t.Errorf("%s: %s is gone too early", way, key)
					}
					mustRun(t, s, 10, words(strings.ReplaceAll(line, "K", key))...)
				}
				isGone(t, s, key)
				mustRun(t, s, 10, words(strings.ReplaceAll(again, "K", key))...)
				if due, there := s.Due(key, 10); due != 0 || !there {
					t.Errorf("%s: %s has the deadline %d", way, key, due)
				}
			}
		}
	}
}

// isGone fails unless a key is not there.
func isGone(t *testing.T, s *space.Space, key string) {
	t.Helper()
	if due, there := s.Due(key, 0); due != 0 || there || s.Version(key) != 0 {
		t.Errorf("%s is there, its deadline %d, its version %d", key, due, s.Version(key))
	}
}

// A set that is changed keeps its deadline, by whatever command; one that is stored afresh has none.
func TestDeadlineStays(t *testing.T) {
	for line, want := range map[string]int{
		"sadd late a": 1000, "sadd late a b c": 1000, "srem late p": 1000, "srem late b x": 1000, "spop late": 1000, "spop late 1": 1000, "smove late s p": 1000, "smove late s b": 1000, "smove s late a": 1000, "smove soon late r": 1000,
		"sunionstore late late s": 0, "sinterstore late late": 0, "sdiffstore late t s": 0,
	} {
		s := begin()
		version := s.Version("late")
		r := mustRun(t, s, 10, words(line)...)
		if due, there := s.Due("late", 10); due != want || !there || s.Version("late") == version || r.Kind == api.ReplyError {
			t.Errorf("%q: %s, deadline %d, version %d", line, resp.Show(r), due, s.Version("late"))
		}
	}
}
