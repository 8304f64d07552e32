package listcmd

import (
	"fmt"
	"strings"
	"testing"

	"covenant/api"
	"covenant/resp"
	"covenant/space"
)

// 19.2: LPUSH and RPUSH lay one or several elements at the end of what is there, or of nothing, and tell the length; the deadline stays.
func TestPush(t *testing.T) {
	check(t, 10, []row{
		{"lpush l x", "(integer) 6", "put l list[x a b c a b] 0"},
		{"lpush l x y z", "(integer) 8", "put l list[z y x a b c a b] 0"},
		{"rpush l x", "(integer) 6", "put l list[a b c a b x] 0"},
		{"rpush l x y z", "(integer) 8", "put l list[a b c a b x y z] 0"},
		{"lpush late x y", "(integer) 4", "put late list[y x p q] 1000"},
		{"rpush late x y", "(integer) 4", "put late list[p q x y] 1000"},
		{"rpush soon r r", "(integer) 3", "put soon list[r r r] 11"},
		{"lpush q x", "(integer) 1", "put q list[x] 0"},
		{"lpush q x y", "(integer) 2", "put q list[y x] 0"},
		{"rpush q x", "(integer) 1", "put q list[x] 0"},
		{"rpush q x y", "(integer) 2", "put q list[x y] 0"},
		{"rpush '' x", "(integer) 1", "put  list[x] 0"},
		{"rpush q '' ''", "(integer) 2", "put q list[ ] 0"},
		// What is over is not there, and its deadline neither; of whatever kind it is.
		{"lpush over x y", "(integer) 2", "put over list[y x] 0"},
		{"rpush past x y", "(integer) 2", "put past list[x y] 0"},
		{"rpush lost x", "(integer) 1", "put lost list[x] 0"},
		{"lpush zed x", "(integer) 1", "put zed list[x] 0"},
	})
	check(t, 11, []row{{"rpush soon r", "(integer) 1", "put soon list[r] 0"}})
	for _, name := range []string{"lpush ", "rpush "} {
		fails(t, 10, api.TextWrong, name+"string x", name+"hash x y", name+"set x", name+"zset x", name+"text x", name+"seta x y")
	}
}

// 19.2: LPUSHX and RPUSHX do so only where something is there.
func TestPushIfThere(t *testing.T) {
	check(t, 10, []row{
		{"lpushx l x", "(integer) 6", "put l list[x a b c a b] 0"},
		{"lpushx late x y", "(integer) 4", "put late list[y x p q] 1000"},
		{"rpushx l x", "(integer) 6", "put l list[a b c a b x] 0"},
		{"rpushx late x y", "(integer) 4", "put late list[p q x y] 1000"},
		{"rpushx soon x", "(integer) 2", "put soon list[r x] 11"},
		{"lpushx q x", "(integer) 0", ""}, {"lpushx q x y", "(integer) 0", ""}, {"lpushx over x", "(integer) 0", ""}, {"lpushx past x", "(integer) 0", ""}, {"lpushx lost x", "(integer) 0", ""}, {"lpushx '' x", "(integer) 0", ""},
		{"rpushx q x", "(integer) 0", ""}, {"rpushx q x y", "(integer) 0", ""}, {"rpushx over x", "(integer) 0", ""}, {"rpushx past x", "(integer) 0", ""}, {"rpushx zed x", "(integer) 0", ""}, {"rpushx '' x", "(integer) 0", ""},
	})
	for _, name := range []string{"lpushx ", "rpushx "} {
		fails(t, 10, api.TextWrong, name+"string x", name+"hash x y", name+"set x", name+"zset x", name+"text x", name+"seta x y")
	}
}

// long is an element of MaxText bytes, longer one of a byte more.
var long, longer = strings.Repeat("x", api.MaxText), strings.Repeat("x", api.MaxText+1)

// An element of MaxText bytes is put; of one with a byte more, wherever it stands among others, nothing is.
func TestLongElements(t *testing.T) {
	for _, c := range []struct{ line, reply string }{
		{"rpush l L", "(integer) 6"}, {"lpush q L L", "(integer) 2"}, {"lpushx l a L", "(integer) 7"}, {"rpushx late L b", "(integer) 4"}, {"lset l 0 L", "OK"}, {"linsert l before c L", "(integer) 6"},
	} {
		s := begin()
		key := words(c.line)[1]
		r := mustRun(t, s, 10, words(strings.ReplaceAll(c.line, "L", long))...)
		v, _ := s.Get(key, 10)
		if resp.Show(r) != c.reply || !strings.Contains(strings.Join(v.List, " "), long) {
			t.Errorf("%s: %.300s", c.line, resp.Show(r))
		}
	}
	for _, line := range []string{
		"rpush l M", "lpush l M", "rpush q M", "lpush q a M", "rpush q M a", "lpush over a M b", "lpushx l M", "rpushx late a M", "lset l 0 M", "lset l -1 M", "linsert l before c M", "linsert l after b M", "rpush l L M",
	} {
		fails(t, 10, api.TextLong, strings.ReplaceAll(strings.ReplaceAll(line, "M", longer), "L", long))
	}
	// Where nothing would be put, none is too long.
	check(t, 10, []row{
		{"lpushx q " + longer, "(integer) 0", ""}, {"rpushx over " + longer, "(integer) 0", ""}, {"linsert q before a " + longer, "(integer) 0", ""}, {"linsert l before x " + longer, "(integer) -1", ""},
		{"linsert l before " + longer + " a", "(integer) -1", ""}, {"lrem l 0 " + longer, "(integer) 0", ""}, {"lpos l " + longer, "(nil)", ""}, {"lpos l " + longer + " count 0", "[]", ""},
	})
	fails(t, 10, api.TextWrong, "rpush string "+longer, "lpushx set "+longer, "lset zset 0 "+longer, "linsert hash before a "+longer)
	fails(t, 10, api.TextNoKey, "lset q 0 "+longer)
	fails(t, 10, api.TextIndex, "lset l 5 "+longer)
	fails(t, 10, api.TextNumber, "lset l x "+longer)
	fails(t, 10, api.TextSyntax, "linsert l x c "+longer)
}

// 19.3: LPOP and RPOP without a count take one element away, the last one with its key.
func TestPop(t *testing.T) {
	check(t, 10, []row{
		{"lpop l", `"a"`, "put l list[b c a b] 0"},
		{"rpop l", `"b"`, "put l list[a b c a] 0"},
		{"lpop late", `"p"`, "put late list[q] 1000"},
		{"rpop late", `"q"`, "put late list[p] 1000"},
		{"lpop one", `"x"`, "drop one"},
		{"rpop one", `"x"`, "drop one"},
		{"lpop soon", `"r"`, "drop soon"},
		{"rpop soon", `"r"`, "drop soon"},
		{"lpop q", "(nil)", ""}, {"lpop over", "(nil)", ""}, {"lpop past", "(nil)", ""}, {"lpop lost", "(nil)", ""}, {"lpop ''", "(nil)", ""},
		{"rpop q", "(nil)", ""}, {"rpop over", "(nil)", ""}, {"rpop past", "(nil)", ""}, {"rpop zed", "(nil)", ""}, {"rpop ''", "(nil)", ""},
	})
	fails(t, 10, api.TextWrong, "lpop string", "lpop hash", "lpop set", "lpop zset", "lpop text", "rpop string", "rpop hash", "rpop set", "rpop zset", "rpop seta")
}

// 19.3: with a count they take as many away, or as many as there are, and answer an array.
func TestPopSeveral(t *testing.T) {
	check(t, 10, []row{
		{"lpop l 0", "[]", ""},
		{"lpop l 1", `["a"]`, "put l list[b c a b] 0"},
		{"lpop l 2", `["a", "b"]`, "put l list[c a b] 0"},
		{"lpop l 4", `["a", "b", "c", "a"]`, "put l list[b] 0"},
		{"lpop l 5", `["a", "b", "c", "a", "b"]`, "drop l"},
		{"lpop l 6", `["a", "b", "c", "a", "b"]`, "drop l"},
		{"lpop l 9223372036854775807", `["a", "b", "c", "a", "b"]`, "drop l"},
		{"rpop l 0", "[]", ""},
		{"rpop l 1", `["b"]`, "put l list[a b c a] 0"},
		{"rpop l 3", `["b", "a", "c"]`, "put l list[a b] 0"},
		{"rpop l 5", `["b", "a", "c", "b", "a"]`, "drop l"},
		{"rpop l 9223372036854775807", `["b", "a", "c", "b", "a"]`, "drop l"},
		{"lpop late 1", `["p"]`, "put late list[q] 1000"},
		{"rpop late 1", `["q"]`, "put late list[p] 1000"},
		{"rpop late 2", `["q", "p"]`, "drop late"},
		{"lpop late 0", "[]", ""},
		{"lpop q 0", "(none)", ""}, {"lpop q 1", "(none)", ""}, {"lpop over 2", "(none)", ""}, {"lpop past 0", "(none)", ""}, {"lpop lost 1", "(none)", ""},
		{"rpop q 0", "(none)", ""}, {"rpop q 1", "(none)", ""}, {"rpop over 2", "(none)", ""}, {"rpop past 0", "(none)", ""}, {"rpop zed 1", "(none)", ""},
	})
	for _, name := range []string{"lpop ", "rpop "} {
		fails(t, 10, api.TextNumber, name+"l -1", name+"l -9223372036854775808", name+"l x", name+"l ''", name+"l 01", name+"l +1", name+"l -0", name+"l 1.0", name+"l 9223372036854775808", name+"q x", name+"q -1", name+"string x", name+"string -1")
		fails(t, 10, api.TextSyntax, name+"l 1 1", name+"l x y", name+"l -1 0", name+"l 1 2 3", name+"q 1 1", name+"string 1 1", name+"l '' ''")
		fails(t, 10, api.TextWrong, name+"string 0", name+"hash 1", name+"set 9", name+"zset 0", name+"text 1", name+"seta 0")
	}
}

// 19.5: LMOVE takes an element from either end of a list to either end of another one.
func TestMove(t *testing.T) {
	check(t, 10, []row{
		{"lmove l late left left", `"a"`, "put l list[b c a b] 0, put late list[a p q] 1000"},
		{"lmove l late left right", `"a"`, "put l list[b c a b] 0, put late list[p q a] 1000"},
		{"lmove l late right left", `"b"`, "put l list[a b c a] 0, put late list[b p q] 1000"},
		{"lmove l late right right", `"b"`, "put l list[a b c a] 0, put late list[p q b] 1000"},
		{"lmove late l LEFT Right", `"p"`, "put late list[q] 1000, put l list[a b c a b p] 0"},
		{"rpoplpush l late", `"b"`, "put l list[a b c a] 0, put late list[b p q] 1000"},
		{"rpoplpush late l", `"q"`, "put late list[p] 1000, put l list[q a b c a b] 0"},
		// The last element takes its key along.
		{"lmove one l left right", `"x"`, "drop one, put l list[a b c a b x] 0"},
		{"lmove soon late right left", `"r"`, "drop soon, put late list[r p q] 1000"},
		{"rpoplpush one late", `"x"`, "drop one, put late list[x p q] 1000"},
		// What is absent, or over, of whatever kind, is laid anew.
		{"lmove l q left right", `"a"`, "put l list[b c a b] 0, put q list[a] 0"},
		{"lmove late q right left", `"q"`, "put late list[p] 1000, put q list[q] 0"},
		{"lmove one q left left", `"x"`, "drop one, put q list[x] 0"},
		{"lmove l over left right", `"a"`, "put l list[b c a b] 0, put over list[a] 0"},
		{"lmove l lost right right", `"b"`, "put l list[a b c a] 0, put lost list[b] 0"},
		{"rpoplpush l zed", `"b"`, "put l list[a b c a] 0, put zed list[b] 0"},
		{"rpoplpush soon ''", `"r"`, "drop soon, put  list[r] 0"},
	})
}

// 19.5: of an absent key nothing is moved.
func TestMoveOfNothing(t *testing.T) {
	for _, ends := range []string{" left left", " left right", " right left", " right right"} {
		check(t, 10, []row{
			{"lmove q l" + ends, "(nil)", ""}, {"lmove q r" + ends, "(nil)", ""}, {"lmove q q" + ends, "(nil)", ""}, {"lmove over l" + ends, "(nil)", ""}, {"lmove over over" + ends, "(nil)", ""}, {"lmove lost late" + ends, "(nil)", ""}, {"lmove q over" + ends, "(nil)", ""},
		})
		fails(t, 10, api.TextWrong, "lmove string l"+ends, "lmove l string"+ends, "lmove q hash"+ends, "lmove over set"+ends, "lmove zset q"+ends, "lmove set set"+ends, "lmove text hash"+ends, "lmove one seta"+ends)
	}
	check(t, 10, []row{{"rpoplpush q l", "(nil)", ""}, {"rpoplpush q q", "(nil)", ""}, {"rpoplpush past late", "(nil)", ""}, {"rpoplpush zed over", "(nil)", ""}})
	fails(t, 10, api.TextWrong, "rpoplpush string l", "rpoplpush l string", "rpoplpush q hash", "rpoplpush zset zset", "rpoplpush set q", "rpoplpush one text")
}

// 19.5: within one key the list is put once, though nothing in it may be another.
func TestMoveWithinOne(t *testing.T) {
	check(t, 10, []row{
		{"lmove l l left left", `"a"`, "put l list[a b c a b] 0"},
		{"lmove l l left right", `"a"`, "put l list[b c a b a] 0"},
		{"lmove l l right left", `"b"`, "put l list[b a b c a] 0"},
		{"lmove l l right right", `"b"`, "put l list[a b c a b] 0"},
		{"lmove late late left right", `"p"`, "put late list[q p] 1000"},
		{"lmove one one left right", `"x"`, "put one list[x] 0"},
		{"lmove one one right right", `"x"`, "put one list[x] 0"},
		{"lmove soon soon right left", `"r"`, "put soon list[r] 11"},
		{"rpoplpush l l", `"b"`, "put l list[b a b c a] 0"},
		{"rpoplpush late late", `"q"`, "put late list[q p] 1000"},
		{"rpoplpush one one", `"x"`, "put one list[x] 0"},
	})
}

// 19.5: an end is LEFT or RIGHT, in whatever letters.
func TestEnds(t *testing.T) {
	for _, end := range []string{"x", "''", "lef", "leftt", "righ", "rights", "before", "after", "0", "-1", "l", "r", "left\x00", "first"} {
		fails(t, 10, api.TextSyntax, "lmove l late "+end+" left", "lmove l late right "+end, "lmove l l "+end+" "+end, "lmove q q left "+end, "lmove string l "+end+" right", "lmove l string left "+end)
	}
	for _, from := range []string{"left", "LEFT", "Left", "lEFT", "right", "RIGHT", "rIgHt"} {
		s, other := begin(), begin()
		r := mustRun(t, s, 10, "lmove", "l", "late", from, strings.ToUpper(from))
		if want := mustRun(t, other, 10, "lmove", "l", "late", strings.ToLower(from), strings.ToLower(from)); resp.Show(r) != resp.Show(want) || told(s) != told(other) || want.Kind != api.ReplyBulk {
			t.Errorf("%s: %s, not %s", from, resp.Show(r), resp.Show(want))
		}
	}
}

// 19.3: a bulk is one without a count, an array with it; an element may look like anything.
func TestElementsAreAnyBytes(t *testing.T) {
	for _, word := range []string{"", "\x00", "\xff\r\n", "OK", "*1", "left", "0", "a b"} {
		s := space.New()
		mustRun(t, s, 0, "rpush", "k", word, "x", word)
		for _, c := range []struct {
			args []string
			want string
		}{
			{[]string{"lindex", "k", "0"}, fmt.Sprint(resp.Show(bulk(word)))},
			{[]string{"lpos", "k", word, "count", "0"}, "[(integer) 0, (integer) 2]"},
			{[]string{"lrem", "k", "1", word}, "(integer) 1"},
			{[]string{"linsert", "k", "before", word, word}, "(integer) 3"},
			{[]string{"rpop", "k", "1"}, "[" + resp.Show(bulk(word)) + "]"},
			{[]string{"rpop", "k"}, resp.Show(bulk(word))},
			{[]string{"lpop", "k"}, `"x"`},
			{[]string{"llen", "k"}, "(integer) 0"},
		} {
			if r := mustRun(t, s, 0, c.args...); resp.Show(r) != c.want {
				t.Errorf("%q: %s, not %s", c.args, resp.Show(r), c.want)
			}
		}
	}
}
