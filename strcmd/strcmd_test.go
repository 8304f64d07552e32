package strcmd

import (
	"fmt"
	"math"
	"slices"
	"strings"
	"testing"

	"covenant/api"
	"covenant/resp"
	"covenant/space"
	"covenant/table"
)

const top = api.MaxTick

func aText(s string) api.Value { return api.Value{Kind: api.KindText, Text: s} }

// others is a value of each kind that is no string, by the key that begin gives it.
func others() map[string]api.Value {
	return map[string]api.Value{
		"list": {Kind: api.KindList, List: []string{"1", "a"}},
		"hash": {Kind: api.KindHash, Fields: []api.Field{{Name: "1", Value: "2"}}},
		"sets": {Kind: api.KindSet, List: []string{"1", "2"}},
		"rank": {Kind: api.KindRank, Ranked: []api.Scored{{Name: "1", Score: 2}}},
	}
}

// begin is a space with keys of every kind, with and without deadlines. At now 10 over and past are over, soon and late are not.
func begin() *space.Space {
	s := space.New()
	s.Put("s", aText("hello"), 0)
	s.Put("soon", aText("world"), 11)
	s.Put("late", aText("hi"), 1000)
	s.Put("over", aText("gone"), 10)
	s.Put("past", aText("5"), 1)
	s.Put("e", aText(""), 0)
	s.Put("n", aText("10"), 0)
	s.Put("m", aText("-7"), 500)
	s.Put("ones", aText("\xff\xff"), 0)
	s.Put("bits", aText("\x00a\x80"), 900)
	for _, key := range []string{"list", "hash", "sets", "rank"} {
		s.Put(key, others()[key], 0)
	}
	s.Put("led", others()["list"], 700)
	s.Put("lost", others()["hash"], 9)
	return s
}

// shown is one change of a space as a short text.
func shown(x api.Effect) string {
	switch x.Kind {
	case api.EffectPut:
		if x.Value.Kind != api.KindText {
			return fmt.Sprintf("put %s %v %d", x.Key, x.Value, x.Due)
		}
		return fmt.Sprintf("put %s %q %d", x.Key, x.Value.Text, x.Due)
	case api.EffectDrop:
		return "drop " + x.Key
	case api.EffectDue:
		return fmt.Sprintf("due %s %d", x.Key, x.Due)
	}
	return fmt.Sprint("kind ", x.Kind)
}

// shownAll is changes in their order.
func shownAll(l []api.Effect) string {
	var all []string
	for _, x := range l {
		all = append(all, shown(x))
	}
	return strings.Join(all, ", ")
}

// told is all that a space tells of its keys, and the counter.
func told(s *space.Space) string {
	return fmt.Sprint(s.Counter(), s.Entries())
}

// words cuts a line at its blanks; an empty word is written ”.
func words(line string) []string {
	l := strings.Split(line, " ")
	for i, word := range l {
		if word == "''" {
			l[i] = ""
		}
	}
	return l
}

// done does a request behind a mark and gives the reply, whether it was one, and the changes as one text.
func done(s *space.Space, now int, args []string) (api.Reply, bool, string) {
	s.Mark()
	r, ok := Run(s, now, args)
	changes := shownAll(s.Changes())
	s.Keep()
	return r, ok, changes
}

// row is a request, its reply as resp shows it, and what it changes.
type row struct {
	line, reply, changes string
}

// check fails unless each row's request, on the beginning's keys, has just that reply and those changes.
func check(t *testing.T, now int, rows []row) {
	t.Helper()
	for _, x := range rows {
		s := begin()
		was := told(s)
		r, ok, changes := done(s, now, words(x.line))
		if !ok || resp.Show(r) != x.reply || changes != x.changes {
			t.Errorf("%q at %d: %s, %v, changes: %s; wanted %s, changes: %s", x.line, now, resp.Show(r), ok, changes, x.reply, x.changes)
		}
		if x.changes == "" && told(s) != was {
			t.Errorf("%q at %d: %s became %s", x.line, now, was, told(s))
		}
	}
}

// fails fails unless each of the lines is answered by this error and changes nothing.
func fails(t *testing.T, now int, text string, lines ...string) {
	t.Helper()
	for _, line := range lines {
		check(t, now, []row{{line, "(error) " + text, ""}})
	}
}

// chapter is the names of the section strings.
func chapter() []string {
	return strings.Fields("append bitcount bitop bitpos decr decrby get getbit getdel getex getrange getset incr incrby mget mset msetnx psetex set setbit setex setnx setrange strlen")
}

// P17.1: the names are those of the table's section strings, rising.
func TestNames(t *testing.T) {
	if got := Names(); !slices.Equal(got, chapter()) || !slices.IsSorted(got) {
		t.Errorf("Names: %q", got)
	}
	for _, name := range Names() {
		if spec, ok := table.Find(name); !ok || spec.Name != name {
			t.Errorf("the table has no %q", name)
		}
	}
}

// right is a request for each name that the table lets pass.
func right() map[string]string {
	return map[string]string{
		"append": "append s x", "bitcount": "bitcount s", "bitop": "bitop or q s", "bitpos": "bitpos s 1", "decr": "decr n", "decrby": "decrby n 1",
		"get": "get s", "getbit": "getbit s 1", "getdel": "getdel s", "getex": "getex s", "getrange": "getrange s 0 1", "getset": "getset s x",
		"incr": "incr n", "incrby": "incrby n 1", "mget": "mget s", "mset": "mset s x", "msetnx": "msetnx q x", "psetex": "psetex s 1 x",
		"set": "set s x", "setbit": "setbit s 1 1", "setex": "setex s 1 x", "setnx": "setnx q x", "setrange": "setrange s 1 x", "strlen": "strlen s",
	}
}

// P17.1: each command is done, whatever letters its name is written in.
func TestNamesInAnyLetters(t *testing.T) {
	if len(right()) != len(chapter()) {
		t.Fatal("a name is wanting")
	}
	for name, line := range right() {
		want, ok, changes := done(begin(), 10, words(line))
		if !ok || want.Kind == 0 || want.Kind == api.ReplyError {
			t.Errorf("%q: %s, %v", line, resp.Show(want), ok)
		}
		for _, spelt := range []string{strings.ToUpper(name), strings.ToUpper(name[:1]) + name[1:], name[:2] + strings.ToUpper(name[2:])} {
			r, ok, also := done(begin(), 10, append([]string{spelt}, words(line)[1:]...))
			if !ok || resp.Show(r) != resp.Show(want) || also != changes {
				t.Errorf("%s %q: %s, %v, %s", spelt, line, resp.Show(r), ok, also)
			}
		}
	}
}

// P17.1: what table.Check refuses is not done: words too few or too many for the row, of each name, and no words at all.
func TestWordsAsTheTableAsks(t *testing.T) {
	for _, name := range chapter() {
		for n := range 8 {
			args := []string{name}
			for range n {
				args = append(args, "1")
			}
			s := begin()
			was := told(s)
			r, ok := Run(s, 10, args)
			if refused := table.Check(args) != ""; ok == refused {
				t.Errorf("%q: %s, %v", args, resp.Show(r), ok)
			}
			if !ok && (r.Kind != 0 || r.Text != "" || r.N != 0 || len(r.List) != 0 || told(s) != was) {
				t.Errorf("%q: %v, %s became %s", args, r, was, told(s))
			}
		}
	}
}

// nothing fails unless a request is answered by the zero reply and false.
func nothing(t *testing.T, s *space.Space, args []string) {
	t.Helper()
	was := told(s)
	r, ok := Run(s, 10, args)
	if ok || r.Kind != 0 || r.Text != "" || r.N != 0 || len(r.List) != 0 || told(s) != was {
		t.Errorf("%q: %v, %v, %s became %s", args, r, ok, was, told(s))
	}
}

// P17.1: a name that is none of these is not done, of another section neither; nor is anything on a nil space.
func TestNoneOfThese(t *testing.T) {
	of := map[string]bool{}
	for _, name := range chapter() {
		of[name] = true
		nothing(t, nil, words(right()[name]))
	}
	for _, spec := range table.All() {
		if of[spec.Name] {
			continue
		}
		args := []string{spec.Name}
		for n := max(spec.Arity, -spec.Arity); len(args) < n; {
			args = append(args, "s")
		}
		if table.Check(args) != "" {
			t.Fatalf("%q is refused", args)
		}
		nothing(t, begin(), args)
		nothing(t, begin(), append([]string{strings.ToUpper(spec.Name)}, args[1:]...))
	}
	for _, args := range [][]string{nil, {}, {""}, {"", "s"}, {"foo", "s"}, {"ge", "s"}, {"gett", "s"}, {"get ", "s"}, {" get", "s"}, {"get\x00", "s"}, {"s", "get"}} {
		nothing(t, begin(), args)
		nothing(t, nil, args)
	}
}

// Now may be any number: what is over at the least and at the greatest tick is over beyond them.
func TestAnyNow(t *testing.T) {
	for _, now := range []int{math.MinInt, -1, 0} {
		check(t, now, []row{{"get past", `"5"`, ""}, {"get over", `"gone"`, ""}, {"get soon", `"world"`, ""}, {"append past 1", "(integer) 2", `put past "51" 1`}})
	}
	for _, now := range []int{top, top + 1, math.MaxInt} {
		check(t, now, []row{{"get late", "(nil)", ""}, {"get s", `"hello"`, ""}, {"append late 1", "(integer) 1", `put late "1" 0`}, {"setnx late 1", "(integer) 1", `put late "1" 0`}})
	}
	s := space.New()
	s.Put("k", aText("x"), top)
	for now, want := range map[int]string{top - 1: `"x"`, top: "(nil)", top + 1: "(nil)", math.MaxInt: "(nil)", math.MinInt: `"x"`} {
		if r, ok := Run(s, now, []string{"get", "k"}); !ok || resp.Show(r) != want {
			t.Errorf("get at %d: %s", now, resp.Show(r))
		}
	}
}
