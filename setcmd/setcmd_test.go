package setcmd

import (
	"fmt"
	"math"
	"slices"
	"strings"
	"testing"

	"covenant/api"
	"covenant/resp"
	"covenant/space"
	"covenant/table"
	"covenant/value"
)

const top = api.MaxTick

func aText(s string) api.Value { return api.Value{Kind: api.KindText, Text: s} }

// aSet is a set of elements, rising.
func aSet(l ...string) api.Value { return api.Value{Kind: api.KindSet, List: l} }

// others is a value of each kind but sets, by the name of the kind.
func others() map[string]api.Value {
	return map[string]api.Value{
		"string": aText("hi"),
		"list":   {Kind: api.KindList, List: []string{"a", "b"}},
		"hash":   {Kind: api.KindHash, Fields: []api.Field{{Name: "a", Value: "1"}}},
		"zset":   {Kind: api.KindRank, Ranked: []api.Scored{{Name: "a", Score: -2}}},
	}
}

// begin is a space with sets and keys of every other kind, with and without deadlines. At now 10 over, past, lost and zed are over, soon, late, row and text are not.
func begin() *space.Space {
	s := space.New()
	s.Put("s", aSet("a", "b", "c"), 0)
	s.Put("t", aSet("b", "c", "d"), 0)
	s.Put("one", aSet("x"), 0)
	s.Put("late", aSet("b", "p"), 1000)
	s.Put("soon", aSet("r"), 11)
	s.Put("over", aSet("a", "b"), 10)
	s.Put("past", aSet("a"), 1)
	for _, name := range []string{"string", "list", "hash", "zset"} {
		s.Put(name, others()[name], 0)
	}
	s.Put("text", aText("7"), 700)
	s.Put("lost", others()["list"], 9)
	s.Put("row", others()["list"], 12)
	s.Put("zed", others()["zset"], 10)
	return s
}

// plain is a value as a short text.
func plain(v api.Value) string {
	switch v.Kind {
	case api.KindText:
		return fmt.Sprintf("%q", v.Text)
	case api.KindHash:
		return fmt.Sprint("hash", v.Fields)
	case api.KindRank:
		return fmt.Sprint(value.Name(v.Kind), v.Ranked)
	}
	return fmt.Sprint(value.Name(v.Kind), v.List)
}

// shown is one change of a space as a short text.
func shown(x api.Effect) string {
	switch x.Kind {
	case api.EffectPut:
		return fmt.Sprintf("put %s %s %d", x.Key, plain(x.Value), x.Due)
	case api.EffectDrop:
		return "drop " + x.Key
	case api.EffectDue:
		return fmt.Sprintf("due %s %d", x.Key, x.Due)
	}
	return "clear"
}

// shownAll is changes in their order.
func shownAll(l []api.Effect) string {
	var all []string
	for _, x := range l {
		all = append(all, shown(x))
	}
	return strings.Join(all, ", ")
}

// told is all that a space tells of its keys, and the counter.
func told(s *space.Space) string {
	return fmt.Sprint(s.Counter(), s.Entries())
}

// words cuts a line at its blanks; two quotes stand for an empty word.
func words(line string) []string {
	l := strings.Split(line, " ")
	for i, word := range l {
		if word == "''" {
			l[i] = ""
		}
	}
	return l
}

// done does a request behind a mark and gives the reply, whether it was one, and the changes as one text.
func done(s *space.Space, now int, args []string) (api.Reply, bool, string) {
	s.Mark()
	r, ok := Run(s, now, args)
	changes := shownAll(s.Changes())
	s.Keep()
	return r, ok, changes
}

// mustRun gives the reply to a request that is one of these commands'.
func mustRun(t *testing.T, s *space.Space, now int, args ...string) api.Reply {
	t.Helper()
	r, ok := Run(s, now, args)
	if !ok {
		t.Fatalf("%.300q is not done", args)
	}
	return r
}

// row is a request, its reply as resp shows it, and what it changes.
type row struct {
	line, reply, changes string
}

// check fails unless each row's request, on the beginning's keys, has just that reply and those changes.
func check(t *testing.T, now int, rows []row) {
	t.Helper()
	for _, x := range rows {
		s := begin()
		was := told(s)
		r, ok, changes := done(s, now, words(x.line))
		if !ok || resp.Show(r) != x.reply || changes != x.changes {
			t.Errorf("%.300q at %d: %.300s, %v, changes: %.300s; wanted %.300s, changes: %.300s", x.line, now, resp.Show(r), ok, changes, x.reply, x.changes)
		}
		if x.changes == "" && told(s) != was {
			t.Errorf("%.300q at %d: %.300s became %.300s", x.line, now, was, told(s))
		}
	}
}

// fails fails unless each of the lines is answered by this error and changes nothing.
func fails(t *testing.T, now int, text string, lines ...string) {
	t.Helper()
	for _, line := range lines {
		check(t, now, []row{{line, "(error) " + text, ""}})
	}
}

// chapter is the names of the section sets.
func chapter() []string {
	return strings.Fields("sadd scard sdiff sdiffstore sinter sinterstore sismember smembers smismember smove spop srem sscan sunion sunionstore")
}

// 21.1: the names are those of the table's section sets, rising.
func TestNames(t *testing.T) {
	if got := Names(); !slices.Equal(got, chapter()) || !slices.IsSorted(got) {
		t.Errorf("Names: %q", got)
	}
	for _, name := range Names() {
		if spec, ok := table.Find(name); !ok || spec.Name != name {
			t.Errorf("the table has no %q", name)
		}
	}
}

// right is a request for each name that is answered by no error.
func right() map[string]string {
	return map[string]string{
		"sadd": "sadd s d a", "scard": "scard s", "sdiff": "sdiff s t", "sdiffstore": "sdiffstore q s t", "sinter": "sinter s t", "sinterstore": "sinterstore q s t", "sismember": "sismember s a", "smembers": "smembers s",
		"smismember": "smismember s a q", "smove": "smove s t a", "spop": "spop s", "srem": "srem s a q", "sscan": "sscan s 0 count 2", "sunion": "sunion s t", "sunionstore": "sunionstore q s t",
	}
}

// 21.1: each command is done, whatever letters its name is written in.
func TestNamesInAnyLetters(t *testing.T) {
	if len(right()) != len(chapter()) {
		t.Fatal("a name is wanting")
	}
	for name, line := range right() {
		want, ok, changes := done(begin(), 10, words(line))
		if !ok || want.Kind == 0 || want.Kind == api.ReplyError {
			t.Errorf("%q: %s, %v", line, resp.Show(want), ok)
		}
		for _, spelt := range []string{strings.ToUpper(name), strings.ToUpper(name[:1]) + name[1:], name[:2] + strings.ToUpper(name[2:])} {
			r, ok, also := done(begin(), 10, append([]string{spelt}, words(line)[1:]...))
			if !ok || resp.Show(r) != resp.Show(want) || also != changes {
				t.Errorf("%s %q: %s, %v, %s", spelt, line, resp.Show(r), ok, also)
			}
		}
	}
}

// 21.1: what table.Check refuses is not done: words too few or too many for the row, of each name.
func TestWordsAsTheTableAsks(t *testing.T) {
	for _, name := range chapter() {
		for n := range 8 {
			for _, spelt := range []string{name, strings.ToUpper(name)} {
				args := []string{spelt}
				for range n {
					args = append(args, "0")
				}
				s := begin()
				was := told(s)
				r, ok := Run(s, 10, args)
				if refused := table.Check(args) != ""; ok == refused {
					t.Errorf("%q: %s, %v", args, resp.Show(r), ok)
				}
				if !ok && (r.Kind != 0 || r.Text != "" || r.N != 0 || len(r.List) != 0 || told(s) != was) {
					t.Errorf("%q: %v, %s became %s", args, r, was, told(s))
				}
			}
		}
	}
}

// nothing fails unless a request is answered by the zero reply and false.
func nothing(t *testing.T, s *space.Space, args []string) {
	t.Helper()
	was := told(s)
	r, ok := Run(s, 10, args)
	if ok || r.Kind != 0 || r.Text != "" || r.N != 0 || len(r.List) != 0 || told(s) != was {
		t.Errorf("%q: %v, %v, %s became %s", args, r, ok, was, told(s))
	}
}

// 21.1: a name that is none of these is not done, of another section neither; nor is anything on a nil space.
func TestNoneOfThese(t *testing.T) {
	of := map[string]bool{}
	for _, name := range chapter() {
		of[name] = true
		nothing(t, nil, words(right()[name]))
	}
	for _, spec := range table.All() {
		if of[spec.Name] {
			continue
		}
		args := []string{spec.Name}
		for n := max(spec.Arity, -spec.Arity); len(args) < n; {
			args = append(args, "s")
		}
		if table.Check(args) != "" {
			t.Fatalf("%q is refused", args)
		}
		nothing(t, begin(), args)
		nothing(t, begin(), append([]string{strings.ToUpper(spec.Name)}, args[1:]...))
	}
	for _, args := range [][]string{nil, {}, {""}, {"", "s"}, {"foo", "s"}, {"scar", "s"}, {"scardd", "s"}, {"scard ", "s"}, {" scard", "s"}, {"scard\x00", "s"}, {"s", "scard"}} {
		nothing(t, begin(), args)
		nothing(t, nil, args)
	}
}

// Now may be any number.
func TestAnyNow(t *testing.T) {
	for _, now := range []int{math.MinInt, -1, 0} {
		check(t, now, []row{
			{"scard past", "(integer) 1", ""}, {"scard over", "(integer) 2", ""}, {"sadd past b", "(integer) 1", "put past set[a b] 1"}, {"spop past", `"a"`, "drop past"}, {"scard q", "(integer) 0", ""},
		})
		fails(t, now, api.TextWrong, "scard lost", "scard zed")
	}
	for _, now := range []int{top, top + 1, math.MaxInt} {
		check(t, now, []row{
			{"scard late", "(integer) 0", ""}, {"scard s", "(integer) 3", ""}, {"sadd late x", "(integer) 1", "put late set[x] 0"}, {"srem late p", "(integer) 0", ""}, {"sadd text x", "(integer) 1", "put text set[x] 0"},
		})
	}
	for now, want := range map[int]int{top - 1: 1, top: 0, top + 1: 0, math.MaxInt: 0, 0: 1, math.MinInt: 1} {
		s := space.New()
		s.Put("k", aSet("x"), top)
		if r := mustRun(t, s, now, "scard", "k"); r.Kind != api.ReplyInt || r.N != want {
			t.Errorf("scard at %d: %s", now, resp.Show(r))
		}
	}
}
