package keycmd

import (
	"fmt"
	"math"
	"slices"
	"strings"
	"testing"

	"covenant/api"
	"covenant/resp"
	"covenant/space"
	"covenant/table"
	"covenant/value"
)

const top = api.MaxTick

func aText(s string) api.Value { return api.Value{Kind: api.KindText, Text: s} }

// kinds is a value of each kind, by the name of the kind.
func kinds() map[string]api.Value {
	return map[string]api.Value{
		"string": aText("hi"),
		"list":   {Kind: api.KindList, List: []string{"1", "a", "1"}},
		"hash":   {Kind: api.KindHash, Fields: []api.Field{{Name: "1", Value: "2"}}},
		"set":    {Kind: api.KindSet, List: []string{"1", "2"}},
		"zset":   {Kind: api.KindRank, Ranked: []api.Scored{{Name: "1", Score: -2}}},
	}
}

// begin is a space with keys of every kind, with and without deadlines. At now 10 over, past, lost and zed are over, soon, late, led and seta are not.
func begin() *space.Space {
	s := space.New()
	s.Put("a", aText("1"), 0)
	s.Put("soon", aText("world"), 11)
	s.Put("late", aText("hi"), 1000)
	s.Put("over", aText("gone"), 10)
	s.Put("past", aText("5"), 1)
	s.Put("e", aText(""), 0)
	for _, name := range []string{"list", "hash", "set", "zset"} {
		s.Put(name, kinds()[name], 0)
	}
	s.Put("led", kinds()["list"], 700)
	s.Put("lost", kinds()["hash"], 9)
	s.Put("seta", kinds()["set"], 12)
	s.Put("zed", kinds()["zset"], 10)
	return s
}

// plain is a value as a short text.
func plain(v api.Value) string {
	switch v.Kind {
	case api.KindText:
		return fmt.Sprintf("%q", v.Text)
	case api.KindHash:
		return fmt.Sprint(value.Name(v.Kind), v.Fields)
	case api.KindRank:
		return fmt.Sprint(value.Name(v.Kind), v.Ranked)
	}
	return fmt.Sprint(value.Name(v.Kind), v.List)
}

// shown is one change of a space as a short text.
func shown(x api.Effect) string {
	switch x.Kind {
	case api.EffectPut:
		return fmt.Sprintf("put %s %s %d", x.Key, plain(x.Value), x.Due)
	case api.EffectDrop:
		return "drop " + x.Key
	case api.EffectDue:
		return fmt.Sprintf("due %s %d", x.Key, x.Due)
	}
	return "clear"
}

// shownAll is changes in their order.
func shownAll(l []api.Effect) string {
	var all []string
	for _, x := range l {
		all = append(all, shown(x))
	}
	return strings.Join(all, ", ")
}

// told is all that a space tells of its keys, and the counter.
func told(s *space.Space) string {
	return fmt.Sprint(s.Counter(), s.Entries())
}

// words cuts a line at its blanks; an empty word is written ”.
func words(line string) []string {
	l := strings.Split(line, " ")
	for i, word := range l {
		if word == "''" {
			l[i] = ""
		}
	}
	return l
}

// done does a request behind a mark and gives the reply, whether it was one, and the changes as one text.
func done(s *space.Space, now int, args []string) (api.Reply, bool, string) {
	s.Mark()
	r, ok := Run(s, now, args)
	changes := shownAll(s.Changes())
	s.Keep()
	return r, ok, changes
}

// mustRun gives the reply to a request that is one of these commands'.
func mustRun(t *testing.T, s *space.Space, now int, args ...string) api.Reply {
	t.Helper()
	r, ok := Run(s, now, args)
	if !ok {
		t.Fatalf("%q is not done", args)
	}
	return r
}

// row is a request, its reply as resp shows it, and what it changes.
type row struct {
	line, reply, changes string
}

// check fails unless each row's request, on the beginning's keys, has just that reply and those changes.
func check(t *testing.T, now int, rows []row) {
	t.Helper()
	for _, x := range rows {
		s := begin()
		was := told(s)
		r, ok, changes := done(s, now, words(x.line))
		if !ok || resp.Show(r) != x.reply || changes != x.changes {
			t.Errorf("%q at %d: %s, %v, changes: %s; wanted %s, changes: %s", x.line, now, resp.Show(r), ok, changes, x.reply, x.changes)
		}
		if x.changes == "" && told(s) != was {
			t.Errorf("%q at %d: %s became %s", x.line, now, was, told(s))
		}
	}
}

// fails fails unless each of the lines is answered by this error and changes nothing.
func fails(t *testing.T, now int, text string, lines ...string) {
	t.Helper()
	for _, line := range lines {
		check(t, now, []row{{line, "(error) " + text, ""}})
	}
}

// integer is a number as resp shows it.
func integer(n int) string { return fmt.Sprint("(integer) ", n) }

// chapter is the names of the section keys.
func chapter() []string {
	return strings.Fields("copy dbsize del dump echo exists expire expireat expiretime flushall flushdb keys persist pexpire pexpireat pexpiretime ping pttl rename renamenx restore scan ttl type unlink")
}

// P18.1: the names are those of the table's section keys, rising.
func TestNames(t *testing.T) {
	if got := Names(); !slices.Equal(got, chapter()) || !slices.IsSorted(got) {
		t.Errorf("Names: %q", got)
	}
	for _, name := range Names() {
		if spec, ok := table.Find(name); !ok || spec.Name != name {
			t.Errorf("the table has no %q", name)
		}
	}
}

// right is a request for each name that is answered by no error.
func right() map[string]string {
	return map[string]string{
		"copy": "copy a q", "dbsize": "dbsize", "del": "del a late", "dump": "dump a", "echo": "echo a", "exists": "exists a q", "expire": "expire a 1", "expireat": "expireat a 1",
		"expiretime": "expiretime late", "flushall": "flushall", "flushdb": "flushdb", "keys": "keys l*", "persist": "persist late", "pexpire": "pexpire a 1", "pexpireat": "pexpireat a 90",
		"pexpiretime": "pexpiretime late", "ping": "ping a", "pttl": "pttl late", "rename": "rename a q", "renamenx": "renamenx a q", "restore": "restore q 0 " + one, "scan": "scan 0",
		"ttl": "ttl late", "type": "type a", "unlink": "unlink a late",
	}
}

// one is the bytes of the string 1.
const one = "\x01\x01\x00\x00\x001"

// P18.1: each command is done, whatever letters its name is written in.
func TestNamesInAnyLetters(t *testing.T) {
	if len(right()) != len(chapter()) {
		t.Fatal("a name is wanting")
	}
	for name, line := range right() {
		want, ok, changes := done(begin(), 10, words(line))
		if !ok || want.Kind == 0 || want.Kind == api.ReplyError {
			t.Errorf("%q: %s, %v", line, resp.Show(want), ok)
		}
		for _, spelt := range []string{strings.ToUpper(name), strings.ToUpper(name[:1]) + name[1:], name[:2] + strings.ToUpper(name[2:])} {
			r, ok, also := done(begin(), 10, append([]string{spelt}, words(line)[1:]...))
			if !ok || resp.Show(r) != resp.Show(want) || also != changes {
				t.Errorf("%s %q: %s, %v, %s", spelt, line, resp.Show(r), ok, also)
			}
		}
	}
}

// P18.1: what table.Check refuses is not done: words too few or too many for the row, of each name.
func TestWordsAsTheTableAsks(t *testing.T) {
	for _, name := range chapter() {
		for n := range 8 {
			args := []string{name}
			for range n {
				args = append(args, "0")
			}
			s := begin()
			was := told(s)
			r, ok := Run(s, 10, args)
			if refused := table.Check(args) != ""; ok == refused {
				t.Errorf("%q: %s, %v", args, resp.Show(r), ok)
			}
			if !ok && (r.Kind != 0 || r.Text != "" || r.N != 0 || len(r.List) != 0 || told(s) != was) {
				t.Errorf("%q: %v, %s became %s", args, r, was, told(s))
			}
		}
	}
}

// nothing fails unless a request is answered by the zero reply and false.
func nothing(t *testing.T, s *space.Space, args []string) {
	t.Helper()
	was := told(s)
	r, ok := Run(s, 10, args)
	if ok || r.Kind != 0 || r.Text != "" || r.N != 0 || len(r.List) != 0 || told(s) != was {
		t.Errorf("%q: %v, %v, %s became %s", args, r, ok, was, told(s))
	}
}

// P18.1: a name that is none of these is not done, of another section neither; nor is anything on a nil space.
func TestNoneOfThese(t *testing.T) {
	of := map[string]bool{}
	for _, name := range chapter() {
		of[name] = true
		nothing(t, nil, words(right()[name]))
	}
	for _, spec := range table.All() {
		if of[spec.Name] {
			continue
		}
		args := []string{spec.Name}
		for n := max(spec.Arity, -spec.Arity); len(args) < n; {
			args = append(args, "a")
		}
		if table.Check(args) != "" {
			t.Fatalf("%q is refused", args)
		}
		nothing(t, begin(), args)
		nothing(t, begin(), append([]string{strings.ToUpper(spec.Name)}, args[1:]...))
	}
	for _, args := range [][]string{nil, {}, {""}, {"", "a"}, {"foo", "a"}, {"tt", "a"}, {"ttll", "a"}, {"ttl ", "a"}, {" ttl", "a"}, {"ttl\x00", "a"}, {"a", "ttl"}} {
		nothing(t, begin(), args)
		nothing(t, nil, args)
	}
}

// Now may be any number: below 0 it counts as 0, above MaxTick as MaxTick.
func TestAnyNow(t *testing.T) {
	for _, now := range []int{math.MinInt, -1, 0} {
		check(t, now, []row{
			{"exists past over", "(integer) 2", ""}, {"pttl past", "(integer) 1", ""}, {"pttl late", "(integer) 1000", ""}, {"ttl late", "(integer) 1", ""}, {"dbsize", "(integer) 14", ""},
			{"expire a 2", "(integer) 1", "due a 2000"}, {"pexpire a 1", "(integer) 1", "due a 1"}, {"pexpire a 0", "(integer) 1", "drop a"}, {"pexpireat a 1", "(integer) 1", "due a 1"}, {"pexpireat a 0", "(integer) 1", "drop a"},
			{"pexpire a 9007199254740992", "(integer) 1", "due a 9007199254740992"}, {"restore q 9007199254740992 " + one, "OK", `put q "1" 9007199254740992`}, {"restore q 1 " + one + " absttl", "OK", `put q "1" 1`},
		})
		fails(t, now, api.TextDeadline, "pexpire a 9007199254740993", "expire a 9007199254741")
	}
	for _, now := range []int{top, top + 1, math.MaxInt} {
		check(t, now, []row{
			{"exists late a", "(integer) 1", ""}, {"pttl late", "(integer) -2", ""}, {"pttl a", "(integer) -1", ""}, {"dbsize", "(integer) 6", ""}, {"keys l*", `["list"]`, ""},
			{"pexpire a 0", "(integer) 1", "drop a"}, {"pexpire a -1", "(integer) 1", "drop a"}, {"pexpireat a 9007199254740992", "(integer) 1", "drop a"}, {"expireat a 9007199254740", "(integer) 1", "drop a"},
			{"restore q 9007199254740992 " + one + " absttl", "OK", ""}, {"restore a 9007199254740992 " + one + " absttl replace", "OK", "drop a"}, {"restore q 0 " + one, "OK", `put q "1" 0`},
		})
		fails(t, now, api.TextDeadline, "pexpire a 1", "expire a 1", "restore q 1 "+one)
	}
	for now, want := range map[int]int{top - 1: 1, top: -2, top + 1: -2, math.MaxInt: -2, 0: top, math.MinInt: top, top - 5: 5} {
		s := space.New()
		s.Put("k", aText("x"), top)
		if r := mustRun(t, s, now, "pttl", "k"); r.Kind != api.ReplyInt || r.N != want {
			t.Errorf("pttl at %d: %s", now, resp.Show(r))
		}
	}
}
