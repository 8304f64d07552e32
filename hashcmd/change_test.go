package hashcmd

import (
	"strings"
	"testing"

	"covenant/api"
	"covenant/resp"
)

// refusedKeys fails unless a request is answered by TextWrong at a key of each other kind; K stands for the key.
func refusedKeys(t *testing.T, line string) {
	t.Helper()
	for _, key := range []string{"string", "list", "set", "zset", "text", "seta"} {
		fails(t, 10, api.TextWrong, strings.ReplaceAll(line, "K", key))
	}
}

// P20.2: HSET gives names their values, from the left, and tells how many names are new; the deadline stays.
func TestSet(t *testing.T) {
	check(t, 10, []row{
		{"hset h d 4", "(integer) 1", "put h hash[a:1 b:x c:-3 d:4] 0"},
		{"hset h a 2", "(integer) 0", "put h hash[a:2 b:x c:-3] 0"},
		{"hset h d 4 e 5", "(integer) 2", "put h hash[a:1 b:x c:-3 d:4 e:5] 0"},
		{"hset h e 5 d 4", "(integer) 2", "put h hash[a:1 b:x c:-3 d:4 e:5] 0"},
		{"hset h a 2 d 4", "(integer) 1", "put h hash[a:2 b:x c:-3 d:4] 0"},
		{"hset h '' 0", "(integer) 1", "put h hash[:0 a:1 b:x c:-3] 0"},
		{"hset h b ''", "(integer) 0", "put h hash[a:1 b: c:-3] 0"},
		{"hset h A 1", "(integer) 1", "put h hash[A:1 a:1 b:x c:-3] 0"},
		{"hset h ab 1 aa 2 b0 3", "(integer) 3", "put h hash[a:1 aa:2 ab:1 b:x b0:3 c:-3] 0"},
		// A name that stands twice has the last value, and is new once.
		{"hset h d 4 d 5", "(integer) 1", "put h hash[a:1 b:x c:-3 d:5] 0"},
		{"hset h d 4 a 2 d 5 a 3 d 6", "(integer) 1", "put h hash[a:3 b:x c:-3 d:6] 0"},
		{"hset h a 2 a 3", "(integer) 0", "put h hash[a:3 b:x c:-3] 0"},
		{"hset late p 8", "(integer) 0", "put late hash[p:8 q:] 1000"},
		{"hset late r 1 q 2", "(integer) 1", "put late hash[p:7 q:2 r:1] 1000"},
		{"hset soon s 1", "(integer) 1", "put soon hash[r:1 s:1] 11"},
		{"hset q a 1", "(integer) 1", "put q hash[a:1] 0"},
		{"hset q b 1 a 2", "(integer) 2", "put q hash[a:2 b:1] 0"},
		{"hset q a 1 a 2", "(integer) 1", "put q hash[a:2] 0"},
		{"hset q '' ''", "(integer) 1", "put q hash[:] 0"},
		{"hset '' a 1", "(integer) 1", "put  hash[a:1] 0"},
		// What is over is not there, and its deadline neither; of whatever kind it is.
		{"hset over a 1", "(integer) 1", "put over hash[a:1] 0"},
		{"hset past c 3", "(integer) 1", "put past hash[c:3] 0"},
		{"hset lost a 1", "(integer) 1", "put lost hash[a:1] 0"},
		{"hset zed a 1 b 2", "(integer) 2", "put zed hash[a:1 b:2] 0"},
	})
	check(t, 11, []row{{"hset soon r 1", "(integer) 1", "put soon hash[r:1] 0"}})
	refusedKeys(t, "hset K a 1")
	refusedKeys(t, "hset K a 1 b 2")
}

// P20.2: fields that are as they were in the end are not touched.
func TestSetTheSame(t *testing.T) {
	for _, line := range []string{"hset h a 1", "hset h a 1 b x c -3", "hset h a 2 a 1", "hset h c 0 a 1 c -3", "hset late p 7", "hset late q ''", "hset soon r 2 r 1"} {
		check(t, 10, []row{{line, "(integer) 0", ""}, {strings.Replace(line, "hset", "hmset", 1), "OK", ""}})
	}
	check(t, 10, []row{{"hset h a 1 b y", "(integer) 0", "put h hash[a:1 b:y c:-3] 0"}, {"hset h a 1 d 1", "(integer) 1", "put h hash[a:1 b:x c:-3 d:1] 0"}})
}

// P20.2: HMSET does the same as HSET, and answers OK.
func TestSetSeveral(t *testing.T) {
	check(t, 10, []row{
		{"hmset h d 4", "OK", "put h hash[a:1 b:x c:-3 d:4] 0"},
		{"hmset h a 2", "OK", "put h hash[a:2 b:x c:-3] 0"},
		{"hmset h e 5 d 4", "OK", "put h hash[a:1 b:x c:-3 d:4 e:5] 0"},
		{"hmset h d 4 a 2 d 5 a 3 d 6", "OK", "put h hash[a:3 b:x c:-3 d:6] 0"},
		{"hmset late p ''", "OK", "put late hash[p: q:] 1000"},
		{"hmset soon s 1", "OK", "put soon hash[r:1 s:1] 11"},
		{"hmset q b 1 a 2", "OK", "put q hash[a:2 b:1] 0"},
		{"hmset '' '' ''", "OK", "put  hash[:] 0"},
		{"hmset over a 1", "OK", "put over hash[a:1] 0"},
		{"hmset past c 3", "OK", "put past hash[c:3] 0"},
		{"hmset lost a 1", "OK", "put lost hash[a:1] 0"},
	})
	refusedKeys(t, "hmset K a 1")
	refusedKeys(t, "hmset K a 1 b 2")
}

// P20.2: a name without a value is an error that says which command it was, in small letters, whatever the key holds.
func TestPairs(t *testing.T) {
	for _, name := range []string{"hset", "hmset", "HSET", "HMset"} {
		wrong := api.TextArity + strings.ToLower(name)
		for _, key := range []string{"h", "late", "q", "over", "string", "list", "set", "zset", "lost", "''"} {
			for _, pairs := range []string{"a 1 b", "a 2 a", "a 1 b 2 c", "x y x y x y x", "'' '' ''"} {
				fails(t, 10, wrong, name+" "+key+" "+pairs)
			}
		}
	}
}

// P20.2: HSETNX gives a name its value only if it is not there.
func TestSetNew(t *testing.T) {
	check(t, 10, []row{
		{"hsetnx h d 4", "(integer) 1", "put h hash[a:1 b:x c:-3 d:4] 0"},
		{"hsetnx h '' ''", "(integer) 1", "put h hash[: a:1 b:x c:-3] 0"},
		{"hsetnx h A 2", "(integer) 1", "put h hash[A:2 a:1 b:x c:-3] 0"},
		{"hsetnx h a 2", "(integer) 0", ""}, {"hsetnx h a 1", "(integer) 0", ""}, {"hsetnx h a ''", "(integer) 0", ""}, {"hsetnx late q x", "(integer) 0", ""}, {"hsetnx soon r 2", "(integer) 0", ""},
		{"hsetnx late r 1", "(integer) 1", "put late hash[p:7 q: r:1] 1000"},
		{"hsetnx soon s 1", "(integer) 1", "put soon hash[r:1 s:1] 11"},
		{"hsetnx q a 1", "(integer) 1", "put q hash[a:1] 0"},
		{"hsetnx over a 2", "(integer) 1", "put over hash[a:2] 0"},
		{"hsetnx past b 2", "(integer) 1", "put past hash[b:2] 0"},
		{"hsetnx lost a 1", "(integer) 1", "put lost hash[a:1] 0"},
	})
	refusedKeys(t, "hsetnx K a 1")
}

// P20.2: HDEL takes names away and tells how many were there; the last one goes with its key.
func TestDrop(t *testing.T) {
	check(t, 10, []row{
		{"hdel h a", "(integer) 1", "put h hash[b:x c:-3] 0"},
		{"hdel h b", "(integer) 1", "put h hash[a:1 c:-3] 0"},
		{"hdel h c a", "(integer) 2", "put h hash[b:x] 0"},
		{"hdel h a a", "(integer) 1", "put h hash[b:x c:-3] 0"},
		{"hdel h q a z a b b", "(integer) 2", "put h hash[c:-3] 0"},
		{"hdel h a b c", "(integer) 3", "drop h"},
		{"hdel h c b a c b a", "(integer) 3", "drop h"},
		{"hdel one x", "(integer) 1", "drop one"},
		{"hdel one x x y", "(integer) 1", "drop one"},
		{"hdel late p", "(integer) 1", "put late hash[q:] 1000"},
		{"hdel late q p", "(integer) 2", "drop late"},
		{"hdel soon r", "(integer) 1", "drop soon"},
		{"hdel h q", "(integer) 0", ""}, {"hdel h q z ''", "(integer) 0", ""}, {"hdel h A", "(integer) 0", ""}, {"hdel h 1", "(integer) 0", ""}, {"hdel late x", "(integer) 0", ""},
		{"hdel q a", "(integer) 0", ""}, {"hdel q a b", "(integer) 0", ""}, {"hdel over a b", "(integer) 0", ""}, {"hdel past a", "(integer) 0", ""}, {"hdel lost a", "(integer) 0", ""}, {"hdel '' ''", "(integer) 0", ""},
	})
	refusedKeys(t, "hdel K a")
	refusedKeys(t, "hdel K q z")
}

// P20.2: HINCRBY adds to the number whose text a value is; 0, if the name is not there.
func TestIncrement(t *testing.T) {
	check(t, 10, []row{
		{"hincrby h a 4", "(integer) 5", "put h hash[a:5 b:x c:-3] 0"},
		{"hincrby h a -1", "(integer) 0", "put h hash[a:0 b:x c:-3] 0"},
		{"hincrby h c 2", "(integer) -1", "put h hash[a:1 b:x c:-1] 0"},
		{"hincrby h c 13", "(integer) 10", "put h hash[a:1 b:x c:10] 0"},
		{"hincrby h d 4", "(integer) 4", "put h hash[a:1 b:x c:-3 d:4] 0"},
		{"hincrby h d 0", "(integer) 0", "put h hash[a:1 b:x c:-3 d:0] 0"},
		{"hincrby h '' -1", "(integer) -1", "put h hash[:-1 a:1 b:x c:-3] 0"},
		{"hincrby h a 9223372036854775806", "(integer) 9223372036854775807", "put h hash[a:9223372036854775807 b:x c:-3] 0"},
		{"hincrby h a -9223372036854775808", "(integer) -9223372036854775807", "put h hash[a:-9223372036854775807 b:x c:-3] 0"},
		{"hincrby h d 9223372036854775807", "(integer) 9223372036854775807", "put h hash[a:1 b:x c:-3 d:9223372036854775807] 0"},
		{"hincrby h d -9223372036854775808", "(integer) -9223372036854775808", "put h hash[a:1 b:x c:-3 d:-9223372036854775808] 0"},
		{"hincrby late p 1", "(integer) 8", "put late hash[p:8 q:] 1000"},
		{"hincrby soon s 1", "(integer) 1", "put soon hash[r:1 s:1] 11"},
		{"hincrby q a 1", "(integer) 1", "put q hash[a:1] 0"},
		{"hincrby q a 0", "(integer) 0", "put q hash[a:0] 0"},
		{"hincrby over a 1", "(integer) 1", "put over hash[a:1] 0"},
		{"hincrby past b -5", "(integer) -5", "put past hash[b:-5] 0"},
		{"hincrby lost a 1", "(integer) 1", "put lost hash[a:1] 0"},
		// By 0 the fields are as they were.
		{"hincrby h a 0", "(integer) 1", ""}, {"hincrby h c 0", "(integer) -3", ""}, {"hincrby late p 0", "(integer) 7", ""},
	})
	fails(t, 10, api.TextOverflow, "hincrby h a 9223372036854775807", "hincrby h c -9223372036854775806", "hincrby h c -9223372036854775808", "hincrby late p 9223372036854775801")
	fails(t, 10, api.TextNumber, "hincrby h b 1", "hincrby h b 0", "hincrby late q 1", "hincrby h b 9223372036854775807")
	refusedKeys(t, "hincrby K a 1")
}

func noNumbers() []string {
	return []string{"x", "''", "1x", "01", "+1", "-0", "--1", "1.0", "-", "9223372036854775808", "-9223372036854775809", "\x00"}
}

// P20.2: what HINCRBY adds is a number, whatever the key holds.
func TestIncrementByNoNumber(t *testing.T) {
	for _, word := range noNumbers() {
		fails(t, 10, api.TextNumber, "hincrby h a "+word, "hincrby h b "+word, "hincrby q a "+word, "hincrby over a "+word, "hincrby string a "+word, "hincrby set a "+word)
	}
}

// P20.2: a value that is no number's text, or one at an end of the ints, is left as it is.
func TestIncrementOfNoNumber(t *testing.T) {
	for _, word := range noNumbers() {
		s := begin()
		mustRun(t, s, 10, "hset", "q", "f", words(word)[0])
		was := told(s)
		r := mustRun(t, s, 10, "hincrby", "q", "f", "0")
		if r.Kind != api.ReplyError || r.Text != api.TextNumber || told(s) != was {
			t.Errorf("hincrby of %q: %s", word, resp.Show(r))
		}
	}
	for _, x := range []struct{ value, by, text string }{
		{"9223372036854775807", "1", api.TextOverflow}, {"9223372036854775807", "9223372036854775807", api.TextOverflow}, {"-9223372036854775808", "-1", api.TextOverflow}, {"-9223372036854775808", "-9223372036854775808", api.TextOverflow}, {"-1", "-9223372036854775808", api.TextOverflow},
		{"9223372036854775807", "0", "9223372036854775807"}, {"9223372036854775807", "-9223372036854775808", "-1"}, {"-9223372036854775808", "9223372036854775807", "-1"}, {"-9223372036854775808", "1", "-9223372036854775807"},
	} {
		s := begin()
		mustRun(t, s, 10, "hset", "q", "f", x.value)
		r := mustRun(t, s, 10, "hincrby", "q", "f", x.by)
		want := "(integer) " + x.text
		if x.text == api.TextOverflow {
			want, x.text = "(error) "+x.text, x.value
		}
		if got := mustRun(t, s, 10, "hget", "q", "f"); resp.Show(r) != want || got.Text != x.text {
			t.Errorf("hincrby of %s by %s: %s, then %s", x.value, x.by, resp.Show(r), resp.Show(got))
		}
	}
}

// long is a text of MaxText bytes, longer one of a byte more.
var long, longer = strings.Repeat("x", api.MaxText), strings.Repeat("x", api.MaxText+1)

// lengths puts these texts in the place of L and M in a line.
func lengths(line string) string {
	return strings.NewReplacer("L", long, "M", longer).Replace(line)
}

// Names and values of MaxText bytes are put; of one with a byte more, wherever it stands among others, nothing is.
func TestLongTexts(t *testing.T) {
	for _, c := range []struct{ line, reply string }{
		{"hset h a L", "(integer) 0"}, {"hset h L 1", "(integer) 1"}, {"hset q L L", "(integer) 1"}, {"hset late a 1 L 2 b L", "(integer) 3"}, {"hmset h a L", "OK"}, {"hmset q L L", "OK"}, {"hsetnx h d L", "(integer) 1"}, {"hsetnx q L L", "(integer) 1"}, {"hincrby h L 1", "(integer) 1"},
	} {
		s := begin()
		r := mustRun(t, s, 10, words(lengths(c.line))...)
		v, _ := s.Get(words(c.line)[1], 10)
		if resp.Show(r) != c.reply || !strings.Contains(plainFields(v.Fields), long) {
			t.Errorf("%s: %.300s", c.line, resp.Show(r))
		}
	}
	for _, line := range []string{
		"hset h a M", "hset h M 1", "hset h d M", "hset q a M", "hset q M M", "hset q a 1 b M", "hset q M 1 a 2", "hset over a M", "hset h L M", "hset h a 2 d M b 3",
		"hmset h a M", "hmset h M 1", "hmset q a 1 b M", "hmset late M 1 a 2", "hsetnx h d M", "hsetnx h M 1", "hsetnx q a M", "hsetnx over M M", "hincrby h M 1", "hincrby q M 0", "hincrby late M -1",
	} {
		fails(t, 10, api.TextLong, lengths(line))
	}
}

// Where nothing too long would be put, nothing is too long.
func TestLongTextsUnput(t *testing.T) {
	check(t, 10, []row{
		{lengths("hsetnx h a M"), "(integer) 0", ""}, {lengths("hdel h M"), "(integer) 0", ""}, {lengths("hdel h M a"), "(integer) 1", "put h hash[b:x c:-3] 0"}, {lengths("hdel q M"), "(integer) 0", ""},
		{lengths("hget h M"), "(nil)", ""}, {lengths("hexists h M"), "(integer) 0", ""}, {lengths("hstrlen h M"), "(integer) 0", ""}, {lengths("hmget h M a"), `[(nil), "1"]`, ""}, {lengths("hscan h >M"), `["0", []]`, ""}, {lengths("hscan h 0 match M"), `["0", []]`, ""},
		// A value that another one takes the place of is put nowhere.
		{lengths("hset h d M d 4"), "(integer) 1", "put h hash[a:1 b:x c:-3 d:4] 0"}, {lengths("hmset q a M b 2 a 1"), "OK", "put q hash[a:1 b:2] 0"}, {lengths("hset h a M a 1"), "(integer) 0", ""},
	})
	fails(t, 10, api.TextLong, lengths("hset h d 4 d M"))
	fails(t, 10, api.TextWrong, lengths("hset string a M"), lengths("hmset list M 1"), lengths("hsetnx set a M"), lengths("hincrby zset M 1"))
	fails(t, 10, api.TextNumber, lengths("hincrby h M x"), lengths("hincrby h a M"))
	fails(t, 10, api.TextArity+"hset", lengths("hset h a M b"))
	fails(t, 10, api.TextArity+"hmset", lengths("hmset string M 1 M"))
}
