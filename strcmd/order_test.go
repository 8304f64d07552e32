package strcmd

import (
	"strings"
	"testing"

	"covenant/api"
	"covenant/resp"
)

// P17.10: what is wrong with an argument is told ahead of another kind of value, and the left one first.
func TestArgumentsFirst(t *testing.T) {
	fails(t, 10, api.TextNumber, "getrange list x y", "getrange list 1 y", "setex list x v", "incrby list x", "decrby list x", "setrange list x v", "setrange list x ''",
		"getbit list x", "setbit list x 2", "bitcount list x y", "bitcount list 0 y", "bitpos list 1 x y", "bitpos list 0 1 y", "set list v get ex x", "getex list px x")
	fails(t, 10, api.TextOffset, "setrange list -1 v", "setrange list -1 ''", "getbit list -1", "setbit list -1 2", "setbit list 8388608 x")
	fails(t, 10, api.TextBit, "setbit list 0 2", "setbit list 8388607 x", "bitpos list 2", "bitpos list 2 x", "bitpos list x 0 y")
	fails(t, 10, api.TextDeadline, "set list v get ex 0", "getex list ex 0", "setex list 0 v", "psetex list -1 v")
	fails(t, 10, api.TextSyntax, "set list v get foo", "set list v foo get", "getex list foo", "bitop foo d list", "bitop not d list hash", "bitcount list 0", "bitpos list 1 0 0 0")
	fails(t, 10, api.TextOverflow, "decrby list -9223372036854775808")
	fails(t, 10, api.TextArity+"mset", "mset list v list")
	fails(t, 10, api.TextArity+"msetnx", "msetnx list v s")
}

// P17.10: another kind of value is told ahead of what lies in a value, and of a text that would be too long.
func TestKindsBeforeContents(t *testing.T) {
	fails(t, 10, api.TextWrong, "incr list", "incrby list 9223372036854775807", "decrby list 9223372036854775807", "setrange list 1048576 v", "setrange list 9223372036854775807 v", "append list v", "bitop or d s list", "bitop or d list s")
	fails(t, 10, api.TextNumber, "incrby s 9223372036854775807", "incrby e -9223372036854775808")
	fails(t, 10, api.TextLong, "setrange s 1048576 v", "setrange e 1048570 1234567")
}

// P17.10: a wrong number of words that is told as TextSyntax comes ahead of all that is wrong with the words.
func TestNumberOfWordsFirst(t *testing.T) {
	fails(t, 10, api.TextSyntax, "getex s ex x y", "getex s px 0 0", "getex list ex x ex", "bitcount s x", "bitcount list x", "bitcount s x y z", "bitpos s 2 x y z", "bitpos list x y z w", "bitpos s 1 x 0 0")
}

// asking is requests that are answered, and by which nothing changes.
func asking() []string {
	return []string{
		"get s", "get q", "get late", "get over", "strlen s", "strlen q", "strlen late", "getrange s 0 1", "getrange q 0 1", "mget s q list late over",
		"getbit s 1", "getbit q 1", "bitcount s", "bitcount late 0 1", "bitcount q", "bitpos s 1", "bitpos late 0 1", "bitpos q 0",
		"set s v nx", "set late v nx get", "set list v nx", "set q v xx", "set over v xx get", "set late v nx px 5", "set late v nx keepttl",
		"getdel q", "getdel over", "getex s", "getex late", "getex q px 5", "getex over persist", "getex s persist", "setnx s v", "setnx late v", "setnx list v",
		"msetnx q v s w", "msetnx late v", "setrange s 0 ''", "setrange late 9 ''", "setrange q 9 ''", "setrange over 0 ''", "bitop or q r", "bitop and over e",
	}
}

// P17.10: what only asks, or says that it does nothing, changes nothing: no value, no deadline, no version, not the counter, with a mark or without.
func TestNothingChanges(t *testing.T) {
	for _, line := range asking() {
		for _, spelt := range []string{line, strings.ToUpper(line[:3]) + line[3:]} {
			s := begin()
			was, version := told(s), s.Version("late")
			r, ok := Run(s, 10, words(spelt))
			if !ok || r.Kind == api.ReplyError || told(s) != was || s.Version("late") != version {
				t.Errorf("%q: %s, %v: %s became %s", spelt, resp.Show(r), ok, was, told(s))
			}
			if _, _, changes := done(s, 10, words(spelt)); changes != "" || told(s) != was {
				t.Errorf("%q: changes: %s", spelt, changes)
			}
		}
	}
}

// P17.10: a key that is over stays there, with its value and version, until a command puts another one.
func TestOverStays(t *testing.T) {
	for _, line := range []string{"get over", "getdel over", "getex over", "getex over px 5", "set over v xx", "setrange over 0 ''", "bitop or over q", "mget over", "msetnx over v s w"} {
		s := begin()
		version := s.Version("over")
		Run(s, 10, words(line))
		if !s.Over("over", 10) || s.Version("over") != version {
			t.Errorf("%q: over %v, version %d from %d", line, s.Over("over", 10), s.Version("over"), version)
		}
	}
	s := begin()
	Run(s, 10, words("append over v"))
	if v, ok := s.Get("over", 10); !ok || v.Text != "v" {
		t.Errorf("append: %v, %v", v, ok)
	}
	if due, ok := s.Due("over", 10); !ok || due != 0 {
		t.Errorf("append: deadline %d, %v", due, ok)
	}
}

// P17.10: an error leaves what stood behind a mark already as it is.
func TestErrorsBehindAMark(t *testing.T) {
	s := begin()
	s.Mark()
	Run(s, 10, words("set q 1"))
	Run(s, 10, words("append s x"))
	was := shownAll(s.Changes())
	for _, line := range []string{"incr s", "incr list", "set q v ex 0", "mset q 2 s", "setrange s 1048576 x", "bitop not q s s", "getset list v"} {
		if r, ok := Run(s, 10, words(line)); !ok || r.Kind != api.ReplyError || shownAll(s.Changes()) != was {
			t.Errorf("%q: %s, %v, changes: %s", line, resp.Show(r), ok, shownAll(s.Changes()))
		}
	}
	if was != `put q "1" 0, put s "hellox" 0` {
		t.Errorf("changes: %s", was)
	}
}
