package listcmd

import (
	"strings"
	"testing"

	"covenant/api"
	"covenant/resp"
)

// R8: what is wrong with the words is told from the left, then another kind, then what lies in a list.
func TestErrorsInTheirOrder(t *testing.T) {
	fails(t, 10, api.TextSyntax, "lpop string 1 2", "lpop string x y", "rpop l -1 x", "linsert string x a b", "lmove string hash x left", "lmove l string left x", "lpos string a foo", "lpos l a foo rank 0", "lpos l a rank 1 foo x", "lpos l a rank 1 rank 0")
	fails(t, 10, api.TextNumber, "lpop string x", "rpop q -1", "lrange string x 0", "lindex string x", "lset string x a", "lset q x a", "lrem string x a", "ltrim string 0 x", "lpos string a rank 0", "lpos string a count -1", "lpos l a rank 0 foo", "lpos l a maxlen x count")
	fails(t, 10, api.TextWrong, "lpop string", "lpop string 0", "linsert string before a b", "lmove q string left right", "lmove string q left right", "lpos string a rank 1", "lset string 9 x", "lpushx string x")
	fails(t, 10, api.TextNoKey, "lset q 9 x", "lset over 0 "+longer)
	fails(t, 10, api.TextIndex, "lset l 9 "+longer)
}

// asking is requests that are answered, and by which nothing changes.
func asking() []string {
	return []string{
		"llen l", "llen late", "llen q", "llen over", "lrange l 0 -1", "lrange late 0 0", "lrange q 0 -1", "lrange over 0 -1", "lindex l 0", "lindex late -1", "lindex l 9", "lindex q 0", "lindex past 0",
		"lpos l a", "lpos l x", "lpos l a count 0 rank -1 maxlen 3", "lpos q a", "lpos over a count 1",
		"lpushx q x", "rpushx over x y", "lpop q", "rpop over", "lpop l 0", "rpop late 0", "lpop q 1", "rpop past 0", "lrem l 0 x", "lrem q 0 a", "lrem over 0 a", "ltrim l 0 -1", "ltrim late -9 9", "ltrim q 1 0", "ltrim over 5 9",
		"linsert q before a x", "linsert over after a x", "linsert l before x a", "lmove q l left left", "lmove over late right left", "lmove q q left right", "rpoplpush q l", "rpoplpush past past",
	}
}

// errors is requests that are answered by an error each.
func errors() []string {
	return []string{
		"lpush string x", "rpush hash x", "lpushx set x", "rpushx zset x", "llen text", "lrange string 0 -1", "lrange l x 0", "lrange late 0 x", "lindex l x", "lindex seta 0", "lpop l x", "rpop l -1", "lpop l 1 2", "rpop string", "lpop hash 0",
		"lset q 0 x", "lset l 9 x", "lset l x x", "lset string 0 x", "lrem l x a", "lrem set 0 a", "ltrim l 0 x", "ltrim zset 1 0", "linsert l x a b", "linsert string before a b",
		"lmove l late x left", "lmove l late left x", "lmove l string left left", "lmove string l left left", "rpoplpush l hash", "rpoplpush set l", "lpos l a foo", "lpos l a rank 0", "lpos l a count -1", "lpos l a maxlen", "lpos string a",
	}
}

// What only asks, what has nothing to do, and what is answered by an error, touches nothing: no value, no deadline, no version, not the counter, with a mark or without.
func TestNothingIsTouched(t *testing.T) {
	for i, line := range append(asking(), errors()...) {
		fails := i >= len(asking())
		for _, spelt := range []string{line, strings.ToUpper(line[:4]) + line[4:]} {
			s := begin()
			was, version := told(s), s.Version("late")
			r, ok := Run(s, 10, words(spelt))
			if !ok || (r.Kind == api.ReplyError) != fails || told(s) != was || s.Version("late") != version {
				t.Errorf("%q: %s, %v: %s became %s", spelt, resp.Show(r), ok, was, told(s))
			}
			if _, _, changes := done(s, 10, words(spelt)); changes != "" || told(s) != was {
				t.Errorf("%q: changes: %s", spelt, changes)
			}
		}
	}
}

// A key that is over stays there, with its value and version, until something is put there.
func TestOverStays(t *testing.T) {
	for _, line := range []string{"lpushx over x", "rpushx over x", "llen over", "lrange over 0 -1", "lindex over 0", "lpop over", "rpop over", "lpop over 2", "rpop over 0", "lset over 0 x", "lrem over 0 a", "ltrim over 5 9", "linsert over before a x", "lmove over l left left", "lmove over over left left", "rpoplpush over q", "lpos over a"} {
		s := begin()
		version := s.Version("over")
		Run(s, 10, words(line))
		if !s.Over("over", 10) || s.Version("over") != version {
			t.Errorf("%q: over %v, version %d from %d", line, s.Over("over", 10), s.Version("over"), version)
		}
	}
}

// An error leaves what stood behind a mark already as it is.
func TestErrorsBehindAMark(t *testing.T) {
	s := begin()
	s.Mark()
	mustRun(t, s, 10, "rpush", "q", "x")
	mustRun(t, s, 10, "lmove", "one", "late", "left", "right")
	was := shownAll(s.Changes())
	for _, line := range []string{"rpush string x", "lset q 1 x", "lset one 0 x", "lmove l string left left", "lmove late l left x", "lpop late x", "rpush q " + longer, "linsert late after x " + longer, "lpos q x rank 0"} {
		if r, ok := Run(s, 10, words(line)); !ok || r.Kind != api.ReplyError || shownAll(s.Changes()) != was {
			t.Errorf("%.300q: %s, %v, changes: %.300s", line, resp.Show(r), ok, shownAll(s.Changes()))
		}
	}
	if was != `put q list[x] 0, drop one, put late list[p q x] 1000` {
		t.Errorf("changes: %s", was)
	}
}

// A list that becomes empty drops its key, by whatever command, with a deadline or without; what is laid there later has none.
func TestEmptyIsAbsent(t *testing.T) {
	for _, line := range []string{"lpop K", "rpop K", "lpop K 1", "rpop K 9", "lrem K 0 E", "lrem K -1 E", "ltrim K 1 0", "ltrim K 5 9", "lmove K l left left", "rpoplpush K l"} {
		for key, element := range map[string]string{"one": "x", "soon": "r"} {
			s := begin()
			mustRun(t, s, 10, words(strings.NewReplacer("K", key, "E", element).Replace(line))...)
			if _, there := s.Get(key, 0); there || s.Version(key) != 0 {
				t.Errorf("%q: %s is there", line, key)
			}
			mustRun(t, s, 10, "rpush", key, "y")
			if due, there := s.Due(key, 10); due != 0 || !there {
				t.Errorf("%q: %s has the deadline %d", line, key, due)
			}
		}
	}
}

// A list that is changed keeps its deadline, by whatever command.
func TestDeadlineStays(t *testing.T) {
	for _, line := range []string{"lpush late x", "rpush late x y", "lpushx late x", "rpushx late x", "lpop late", "rpop late", "lpop late 1", "rpop late 1", "lset late 0 x", "lrem late 1 p", "ltrim late 0 0", "linsert late before q x", "lmove late l left left", "lmove l late left left", "lmove late late left right", "rpoplpush late q", "rpoplpush soon late", "rpoplpush late late"} {
		s := begin()
		version := s.Version("late")
		r := mustRun(t, s, 10, words(line)...)
		if due, there := s.Due("late", 10); due != 1000 || !there || s.Version("late") == version || r.Kind == api.ReplyError {
			t.Errorf("%q: %s, deadline %d, version %d", line, resp.Show(r), due, s.Version("late"))
		}
	}
}
