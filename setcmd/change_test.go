package setcmd

import (
	"strings"
	"testing"

	"covenant/api"
	"covenant/resp"
)

// wrongKeys is the keys of each other kind.
func wrongKeys() []string { return []string{"string", "list", "hash", "zset", "text", "row"} }

// refusedKeys fails unless a request is answered by TextWrong at a key of each other kind; K stands for the key.
func refusedKeys(t *testing.T, line string) {
	t.Helper()
	for _, key := range wrongKeys() {
		fails(t, 10, api.TextWrong, strings.ReplaceAll(line, "K", key))
	}
}

// 21.2: SADD tells how many elements are new, each counted once; the deadline stays.
func TestAdd(t *testing.T) {
	check(t, 10, []row{
		{"sadd s d", "(integer) 1", "put s set[a b c d] 0"},
		{"sadd s A", "(integer) 1", "put s set[A a b c] 0"},
		{"sadd s ab aa b0", "(integer) 3", "put s set[a aa ab b b0 c] 0"},
		{"sadd s e d", "(integer) 2", "put s set[a b c d e] 0"},
		{"sadd s d d d", "(integer) 1", "put s set[a b c d] 0"},
		{"sadd s a d b", "(integer) 1", "put s set[a b c d] 0"},
		{"sadd s e a d e a d", "(integer) 2", "put s set[a b c d e] 0"},
		{"sadd s ''", "(integer) 1", "put s set[ a b c] 0"},
		{"sadd late a", "(integer) 1", "put late set[a b p] 1000"},
		{"sadd late q p r", "(integer) 2", "put late set[b p q r] 1000"},
		{"sadd soon a", "(integer) 1", "put soon set[a r] 11"},
		{"sadd q a", "(integer) 1", "put q set[a] 0"},
		{"sadd q b a b", "(integer) 2", "put q set[a b] 0"},
		{"sadd q ''", "(integer) 1", "put q set[] 0"},
		{"sadd '' a", "(integer) 1", "put  set[a] 0"},
		// What is over is not there, and its deadline neither; of whatever kind it is.
		{"sadd over a", "(integer) 1", "put over set[a] 0"},
		{"sadd past c a", "(integer) 2", "put past set[a c] 0"},
		{"sadd lost a", "(integer) 1", "put lost set[a] 0"},
		{"sadd zed a b", "(integer) 2", "put zed set[a b] 0"},
		// Where none is new nothing is put.
		{"sadd s a", "(integer) 0", ""}, {"sadd s c a b c", "(integer) 0", ""}, {"sadd late p", "(integer) 0", ""}, {"sadd soon r r", "(integer) 0", ""},
	})
	check(t, 11, []row{{"sadd soon a", "(integer) 1", "put soon set[a] 0"}, {"sadd soon r", "(integer) 1", "put soon set[r] 0"}})
	refusedKeys(t, "sadd K a")
	refusedKeys(t, "sadd K a b a")
}

// 21.2: SREM tells how many elements are gone; the last one goes with its key.
func TestRemove(t *testing.T) {
	check(t, 10, []row{
		{"srem s a", "(integer) 1", "put s set[b c] 0"},
		{"srem s b", "(integer) 1", "put s set[a c] 0"},
		{"srem s c a", "(integer) 2", "put s set[b] 0"},
		{"srem s a a", "(integer) 1", "put s set[b c] 0"},
		{"srem s q a z a b b", "(integer) 2", "put s set[c] 0"},
		{"srem s a b c", "(integer) 3", "drop s"},
		{"srem s c b a c q b a", "(integer) 3", "drop s"},
		{"srem one x", "(integer) 1", "drop one"},
		{"srem one x x y", "(integer) 1", "drop one"},
		{"srem late p", "(integer) 1", "put late set[b] 1000"},
		{"srem late p b", "(integer) 2", "drop late"},
		{"srem soon r", "(integer) 1", "drop soon"},
		{"srem s q", "(integer) 0", ""}, {"srem s q z ''", "(integer) 0", ""}, {"srem s A", "(integer) 0", ""}, {"srem s ab", "(integer) 0", ""}, {"srem late x", "(integer) 0", ""},
		{"srem q a", "(integer) 0", ""}, {"srem q a b", "(integer) 0", ""}, {"srem over a b", "(integer) 0", ""}, {"srem past a", "(integer) 0", ""}, {"srem lost a", "(integer) 0", ""}, {"srem '' ''", "(integer) 0", ""},
	})
	refusedKeys(t, "srem K a")
	refusedKeys(t, "srem K q z")
}

// 21.3: SPOP without a count takes the first element away and tells it; null, if there is none.
func TestPopOne(t *testing.T) {
	check(t, 10, []row{
		{"spop s", `"a"`, "put s set[b c] 0"},
		{"SPOP t", `"b"`, "put t set[c d] 0"},
		{"spop late", `"b"`, "put late set[p] 1000"},
		{"spop one", `"x"`, "drop one"},
		{"spop soon", `"r"`, "drop soon"},
		{"spop q", "(nil)", ""}, {"spop over", "(nil)", ""}, {"spop past", "(nil)", ""}, {"spop lost", "(nil)", ""}, {"spop zed", "(nil)", ""}, {"spop ''", "(nil)", ""},
	})
	refusedKeys(t, "spop K")
}

// 21.3: with a count SPOP takes the first so many away and tells them in an array.
func TestPopSeveral(t *testing.T) {
	check(t, 10, []row{
		{"spop s 0", "[]", ""},
		{"spop s 1", `["a"]`, "put s set[b c] 0"},
		{"spop s 2", `["a", "b"]`, "put s set[c] 0"},
		{"spop s 3", `["a", "b", "c"]`, "drop s"},
		{"spop s 4", `["a", "b", "c"]`, "drop s"},
		{"spop s 9223372036854775807", `["a", "b", "c"]`, "drop s"},
		{"spop late 0", "[]", ""},
		{"spop late 1", `["b"]`, "put late set[p] 1000"},
		{"spop late 2", `["b", "p"]`, "drop late"},
		{"spop one 1", `["x"]`, "drop one"},
		{"spop soon 5", `["r"]`, "drop soon"},
		{"spop q 0", "[]", ""}, {"spop q 1", "[]", ""}, {"spop q 9223372036854775807", "[]", ""}, {"spop over 1", "[]", ""}, {"spop past 2", "[]", ""}, {"spop lost 1", "[]", ""}, {"spop zed 0", "[]", ""},
	})
	refusedKeys(t, "spop K 0")
	refusedKeys(t, "spop K 1")
}

func noNumbers() []string {
	return []string{"x", "''", "1x", "01", "+1", "-0", "--1", "1.0", "-", "9223372036854775808", "-9223372036854775809", "\x00"}
}

// 21.3: what is no number, or below 0, is no count; more words than one are none, ahead of all else.
func TestPopWrong(t *testing.T) {
	for _, key := range []string{"s", "late", "q", "over", "string", "zset"} {
		for _, word := range append(noNumbers(), "-1", "-2", "-9223372036854775808") {
			fails(t, 10, api.TextNumber, "spop "+key+" "+word)
		}
		for _, words := range []string{"1 1", "x 1", "1 x", "-1 -1", "0 ''", "count 1", "1 2 3", "x x x"} {
			fails(t, 10, api.TextSyntax, "spop "+key+" "+words)
		}
	}
}

// 21.4: SMOVE takes an element from one set to another one.
func TestMove(t *testing.T) {
	check(t, 10, []row{
		{"smove s t a", "(integer) 1", "put s set[b c] 0, put t set[a b c d] 0"},
		{"smove t s d", "(integer) 1", "put t set[b c] 0, put s set[a b c d] 0"},
		{"smove s late c", "(integer) 1", "put s set[a b] 0, put late set[b c p] 1000"},
		{"smove late s p", "(integer) 1", "put late set[b] 1000, put s set[a b c p] 0"},
		{"smove late soon b", "(integer) 1", "put late set[p] 1000, put soon set[b r] 11"},
		// It is in the other set already, which is not touched then.
		{"smove s t b", "(integer) 1", "put s set[a c] 0"},
		{"smove t late b", "(integer) 1", "put t set[c d] 0"},
		// To an absent key, or one that is over.
		{"smove s q a", "(integer) 1", "put s set[b c] 0, put q set[a] 0"},
		{"smove late q p", "(integer) 1", "put late set[b] 1000, put q set[p] 0"},
		{"smove s over a", "(integer) 1", "put s set[b c] 0, put over set[a] 0"},
		{"smove s past a", "(integer) 1", "put s set[b c] 0, put past set[a] 0"},
		{"smove s lost c", "(integer) 1", "put s set[a b] 0, put lost set[c] 0"},
		{"smove s '' c", "(integer) 1", "put s set[a b] 0, put  set[c] 0"},
		// The last element goes with its key.
		{"smove one s x", "(integer) 1", "drop one, put s set[a b c x] 0"},
		{"smove soon q r", "(integer) 1", "drop soon, put q set[r] 0"},
		{"smove one one x", "(integer) 1", ""},
		// What is not there is not moved.
		{"smove s t q", "(integer) 0", ""}, {"smove s t d", "(integer) 0", ""}, {"smove s t ''", "(integer) 0", ""}, {"smove s t A", "(integer) 0", ""}, {"smove s q z", "(integer) 0", ""}, {"smove q s a", "(integer) 0", ""}, {"smove q p a", "(integer) 0", ""},
		{"smove over s a", "(integer) 0", ""}, {"smove past q a", "(integer) 0", ""}, {"smove lost s a", "(integer) 0", ""}, {"smove '' '' ''", "(integer) 0", ""},
		// The element is no key, whatever a key of its name holds.
		{"smove s t string", "(integer) 0", ""}, {"smove string string string", "(error) " + api.TextWrong, ""}, {"smove s t s", "(integer) 0", ""},
		// Within one key nothing is changed.
		{"smove s s a", "(integer) 1", ""}, {"smove s s q", "(integer) 0", ""}, {"smove late late p", "(integer) 1", ""}, {"smove q q a", "(integer) 0", ""}, {"smove over over a", "(integer) 0", ""},
	})
}

// 21.4: both keys hold sets, or are absent, whether the element is there or not.
func TestMoveWrong(t *testing.T) {
	for _, element := range []string{"a", "q"} {
		for _, key := range []string{"s", "late", "q", "over", "string", "zset"} {
			refusedKeys(t, "smove K "+key+" "+element)
			refusedKeys(t, "smove "+key+" K "+element)
		}
		refusedKeys(t, "smove K K "+element)
	}
}

// long is a text of MaxText bytes, longer one of a byte more.
var long, longer = strings.Repeat("x", api.MaxText), strings.Repeat("x", api.MaxText+1)

// lengths puts these texts in the place of L and M in a line.
func lengths(line string) string {
	return strings.NewReplacer("L", long, "M", longer).Replace(line)
}

// Elements of MaxText bytes are put; of one with a byte more, wherever it stands among others, nothing is.
func TestLongElements(t *testing.T) {
	for _, c := range []struct{ line, reply string }{
		{"sadd s L", "(integer) 1"}, {"sadd q L", "(integer) 1"}, {"sadd late z L a L", "(integer) 3"}, {"sadd over L", "(integer) 1"},
	} {
		s := begin()
		r := mustRun(t, s, 10, words(lengths(c.line))...)
		v, _ := s.Get(words(c.line)[1], 10)
		if resp.Show(r) != c.reply || !strings.Contains(plain(v), long) {
			t.Errorf("%s: %.300s", c.line, resp.Show(r))
		}
	}
	for _, line := range []string{"sadd s M", "sadd q M", "sadd s a M", "sadd s M d", "sadd q a M b", "sadd late L M", "sadd over M", "sadd lost M a", "sadd s M M"} {
		fails(t, 10, api.TextLong, lengths(line))
	}
	refusedKeys(t, lengths("sadd K M"))
}

// Where nothing too long would be put, nothing is too long; an element of MaxText bytes is moved, stored and taken away as any other.
func TestLongElementsUnput(t *testing.T) {
	check(t, 10, []row{
		{lengths("srem s M"), "(integer) 0", ""}, {lengths("srem s M a"), "(integer) 1", "put s set[b c] 0"}, {lengths("srem q M"), "(integer) 0", ""},
		{lengths("smove s t M"), "(integer) 0", ""}, {lengths("smove s s M"), "(integer) 0", ""}, {lengths("smove q t M"), "(integer) 0", ""},
		{lengths("sismember s M"), "(integer) 0", ""}, {lengths("smismember s M a"), "[(integer) 0, (integer) 1]", ""}, {lengths("sscan s >M"), `["0", []]`, ""}, {lengths("sscan s 0 match M"), `["0", []]`, ""},
	})
	s := begin()
	for _, c := range []struct{ line, reply string }{
		{"sadd q L", "(integer) 1"}, {"sismember q L", "(integer) 1"}, {"smove q s L", "(integer) 1"}, {"sunionstore p s t", "(integer) 5"}, {"sismember p L", "(integer) 1"}, {"srem s L", "(integer) 1"}, {"sdiffstore p p s t", "(integer) 1"}, {"scard p", "(integer) 1"},
	} {
		if r := mustRun(t, s, 10, words(lengths(c.line))...); resp.Show(r) != c.reply {
			t.Errorf("%s: %.300s", c.line, resp.Show(r))
		}
	}
	if r := mustRun(t, s, 10, "spop", "p"); r.Kind != api.ReplyBulk || r.Text != long {
		t.Errorf("spop: %.300s", resp.Show(r))
	}
}
