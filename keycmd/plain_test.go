package keycmd

import (
	"testing"

	"covenant/api"
	"covenant/resp"
	"covenant/space"
)

// P18.2: PING with no, one and more words; ECHO.
func TestPing(t *testing.T) {
	check(t, 10, []row{
		{"ping", "PONG", ""},
		{"ping hi", `"hi"`, ""},
		{"ping ''", `""`, ""},
		{"ping PONG", `"PONG"`, ""},
		{"ping \x00\xff\r\n", `"\x00\xff\r\n"`, ""},
		{"echo hi", `"hi"`, ""},
		{"echo ''", `""`, ""},
		{"ECHO echo", `"echo"`, ""},
		{"echo \x00\xff\r\n", `"\x00\xff\r\n"`, ""},
	})
	fails(t, 10, api.TextArity+"ping", "ping a b", "PING a b", "Ping a b c d e f", "ping '' ''")
	if r := mustRun(t, begin(), 10, "ping"); r.Kind != api.ReplySimple {
		t.Errorf("ping: %v", r)
	}
	for _, args := range [][]string{{"ping", "OK"}, {"echo", "OK"}} {
		if r := mustRun(t, begin(), 10, args...); r.Kind != api.ReplyBulk || r.Text != "OK" {
			t.Errorf("%q: %v", args, r)
		}
	}
}

// P18.2: DBSIZE counts what is there, not what is over.
func TestSize(t *testing.T) {
	check(t, 0, []row{{"dbsize", "(integer) 14", ""}})
	check(t, 1, []row{{"dbsize", "(integer) 13", ""}})
	check(t, 8, []row{{"dbsize", "(integer) 13", ""}})
	check(t, 9, []row{{"dbsize", "(integer) 12", ""}})
	check(t, 10, []row{{"dbsize", "(integer) 10", ""}})
	check(t, 11, []row{{"dbsize", "(integer) 9", ""}})
	check(t, 1000, []row{{"dbsize", "(integer) 6", ""}})
	if r := mustRun(t, space.New(), 10, "dbsize"); r.Kind != api.ReplyInt || r.N != 0 {
		t.Errorf("dbsize of nothing: %s", resp.Show(r))
	}
}

// P18.2: FLUSHALL and FLUSHDB take all keys away, those that are over, too; of none they change nothing.
func TestFlush(t *testing.T) {
	for _, name := range []string{"flushall", "FLUSHDB"} {
		check(t, 10, []row{{name, "OK", "clear"}})
		s := begin()
		r := mustRun(t, s, 10, name)
		if r.Kind != api.ReplySimple || len(s.Entries()) != 0 || s.Counter() != 28 {
			t.Errorf("%s: %v, %s", name, r, told(s))
		}
		if r, _, changes := done(s, 10, []string{name}); r.Text != "OK" || changes != "" || s.Counter() != 28 {
			t.Errorf("%s of nothing: %s, changes: %s, %s", name, resp.Show(r), changes, told(s))
		}
		s.Put("k", aText("x"), 1)
		if r, _, changes := done(s, 10, []string{name}); r.Text != "OK" || changes != "clear" || len(s.Entries()) != 0 {
			t.Errorf("%s of what is over: %s, changes: %s, %s", name, resp.Show(r), changes, told(s))
		}
	}
}

// P18.2: DEL and UNLINK drop each key that is there, of whatever kind, once, and tell how many.
func TestDrop(t *testing.T) {
	for _, name := range []string{"del ", "unlink ", "DEL ", "UnLink "} {
		check(t, 10, []row{
			{name + "a", "(integer) 1", "drop a"},
			{name + "q", "(integer) 0", ""},
			{name + "''", "(integer) 0", ""},
			{name + "over", "(integer) 0", ""},
			{name + "past", "(integer) 0", ""},
			{name + "zed lost", "(integer) 0", ""},
			{name + "soon", "(integer) 1", "drop soon"},
			{name + "a a", "(integer) 1", "drop a"},
			{name + "a q a late a", "(integer) 2", "drop a, drop late"},
			{name + "late a", "(integer) 2", "drop late, drop a"},
			{name + "e list hash set zset led seta", "(integer) 7", "drop e, drop list, drop hash, drop set, drop zset, drop led, drop seta"},
		})
		check(t, 11, []row{{name + "soon seta", "(integer) 1", "drop seta"}})
	}
}

// P18.2: EXISTS counts the words that are there, a key that stands twice twice.
func TestExists(t *testing.T) {
	check(t, 10, []row{
		{"exists a", "(integer) 1", ""},
		{"exists q", "(integer) 0", ""},
		{"exists ''", "(integer) 0", ""},
		{"exists a a", "(integer) 2", ""},
		{"exists a q a late a", "(integer) 4", ""},
		{"exists over past lost zed", "(integer) 0", ""},
		{"exists soon", "(integer) 1", ""},
		{"exists e list hash set zset led seta", "(integer) 7", ""},
		{"exists q q", "(integer) 0", ""},
	})
	check(t, 11, []row{{"exists soon", "(integer) 0", ""}, {"exists seta", "(integer) 1", ""}})
}

// P18.2: TYPE tells the name of the kind of what is there, as a simple reply, or none.
func TestType(t *testing.T) {
	check(t, 10, []row{
		{"type a", "string", ""}, {"type e", "string", ""}, {"type soon", "string", ""}, {"type list", "list", ""}, {"type led", "list", ""},
		{"type hash", "hash", ""}, {"type set", "set", ""}, {"type seta", "set", ""}, {"type zset", "zset", ""},
		{"type q", "none", ""}, {"type ''", "none", ""}, {"type over", "none", ""}, {"type past", "none", ""}, {"type lost", "none", ""}, {"type zed", "none", ""},
	})
	check(t, 0, []row{{"type lost", "hash", ""}, {"type zed", "zset", ""}})
	for _, key := range []string{"a", "zset", "q"} {
		if r := mustRun(t, begin(), 10, "type", key); r.Kind != api.ReplySimple {
			t.Errorf("type %s: %v", key, r)
		}
	}
}
