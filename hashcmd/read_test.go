package hashcmd

import (
	"strings"
	"testing"

	"covenant/api"
	"covenant/resp"
)

// P20.3: HGET tells a name's value, or null.
func TestGet(t *testing.T) {
	check(t, 10, []row{
		{"hget h a", `"1"`, ""}, {"hget h b", `"x"`, ""}, {"hget h c", `"-3"`, ""}, {"hget late p", `"7"`, ""}, {"hget late q", `""`, ""}, {"hget soon r", `"1"`, ""},
		{"hget h q", "(nil)", ""}, {"hget h ''", "(nil)", ""}, {"hget h A", "(nil)", ""}, {"hget h 1", "(nil)", ""}, {"hget h a\x00", "(nil)", ""},
		{"hget q a", "(nil)", ""}, {"hget over a", "(nil)", ""}, {"hget past a", "(nil)", ""}, {"hget lost a", "(nil)", ""}, {"hget zed a", "(nil)", ""}, {"hget '' ''", "(nil)", ""},
	})
	refusedKeys(t, "hget K a")
}

// P20.3: HMGET tells that of each name, in the order of the words.
func TestGetSeveral(t *testing.T) {
	check(t, 10, []row{
		{"hmget h a", `["1"]`, ""}, {"hmget h a b c", `["1", "x", "-3"]`, ""}, {"hmget h c a", `["-3", "1"]`, ""}, {"hmget h a a", `["1", "1"]`, ""}, {"hmget h a q", `["1", (nil)]`, ""}, {"hmget h q a '' c", `[(nil), "1", (nil), "-3"]`, ""}, {"hmget late q", `[""]`, ""},
		{"hmget h q", "[(nil)]", ""}, {"hmget q a b", "[(nil), (nil)]", ""}, {"hmget over a q b", "[(nil), (nil), (nil)]", ""}, {"hmget past a", "[(nil)]", ""}, {"hmget lost a", "[(nil)]", ""},
	})
	refusedKeys(t, "hmget K a")
	refusedKeys(t, "hmget K a b")
}

// P20.3: HEXISTS tells whether a name is there.
func TestExists(t *testing.T) {
	check(t, 10, []row{
		{"hexists h a", "(integer) 1", ""}, {"hexists h c", "(integer) 1", ""}, {"hexists late q", "(integer) 1", ""}, {"hexists soon r", "(integer) 1", ""},
		{"hexists h q", "(integer) 0", ""}, {"hexists h ''", "(integer) 0", ""}, {"hexists h A", "(integer) 0", ""}, {"hexists h x", "(integer) 0", ""}, {"hexists late a", "(integer) 0", ""},
		{"hexists q a", "(integer) 0", ""}, {"hexists over a", "(integer) 0", ""}, {"hexists past a", "(integer) 0", ""}, {"hexists lost a", "(integer) 0", ""},
	})
	refusedKeys(t, "hexists K a")
}

// P20.3: HSTRLEN tells how many bytes a name's value has.
func TestValueLength(t *testing.T) {
	check(t, 10, []row{
		{"hstrlen h a", "(integer) 1", ""}, {"hstrlen h c", "(integer) 2", ""}, {"hstrlen late q", "(integer) 0", ""}, {"hstrlen late p", "(integer) 1", ""},
		{"hstrlen h q", "(integer) 0", ""}, {"hstrlen h ''", "(integer) 0", ""}, {"hstrlen q a", "(integer) 0", ""}, {"hstrlen over a", "(integer) 0", ""}, {"hstrlen past a", "(integer) 0", ""}, {"hstrlen lost a", "(integer) 0", ""},
	})
	refusedKeys(t, "hstrlen K a")
	s := begin()
	for value, want := range map[string]int{"": 0, "\x00": 1, "\xff\xfe": 2, "äö": 4, long: api.MaxText} {
		mustRun(t, s, 10, "hset", "h", "f", value)
		if r := mustRun(t, s, 10, "hstrlen", "h", "f"); r.Kind != api.ReplyInt || r.N != want {
			t.Errorf("hstrlen of %.20q: %s", value, resp.Show(r))
		}
	}
}

// P20.3: HLEN tells how many fields there are.
func TestLength(t *testing.T) {
	check(t, 10, []row{
		{"hlen h", "(integer) 3", ""}, {"hlen one", "(integer) 1", ""}, {"hlen late", "(integer) 2", ""}, {"hlen soon", "(integer) 1", ""},
		{"hlen q", "(integer) 0", ""}, {"hlen over", "(integer) 0", ""}, {"hlen past", "(integer) 0", ""}, {"hlen lost", "(integer) 0", ""}, {"hlen zed", "(integer) 0", ""}, {"hlen ''", "(integer) 0", ""},
	})
	refusedKeys(t, "hlen K")
}

// P20.3: HKEYS, HVALS and HGETALL tell the names, the values, and both, by rising names.
func TestAllFields(t *testing.T) {
	check(t, 10, []row{
		{"hkeys h", `["a", "b", "c"]`, ""}, {"hvals h", `["1", "x", "-3"]`, ""}, {"hgetall h", `["a", "1", "b", "x", "c", "-3"]`, ""},
		{"hkeys late", `["p", "q"]`, ""}, {"hvals late", `["7", ""]`, ""}, {"hgetall late", `["p", "7", "q", ""]`, ""},
		{"hkeys one", `["x"]`, ""}, {"hvals one", `["5"]`, ""}, {"hgetall one", `["x", "5"]`, ""},
	})
	for _, name := range []string{"hkeys ", "hvals ", "HGETALL "} {
		for _, key := range []string{"q", "over", "past", "lost", "zed", "''"} {
			check(t, 10, []row{{name + key, "[]", ""}})
		}
		refusedKeys(t, name+"K")
	}
	check(t, 9, []row{{"hgetall over", `["a", "1", "b", "2"]`, ""}})
	check(t, 11, []row{{"hgetall soon", "[]", ""}})
}

// P20.3: rising is byte by byte, whatever the names and in whatever order they came.
func TestRising(t *testing.T) {
	names := []string{"", "\x00", "\x00\x00", "0", "10", "2", "A", "B", "a", "a\x00", "aa", "b", "z", "\x7f", "\x80", "\xff", "\xff\x00"}
	for from := range names {
		s := begin()
		for i := range names {
			// Seven and the number of names have nothing in common, so each of them comes once.
			name := names[(from+i*7)%len(names)]
			mustRun(t, s, 10, "hset", "q", name, "<"+name+">")
		}
		var values, both []string
		for _, name := range names {
			values = append(values, "<"+name+">")
			both = append(both, name, "<"+name+">")
		}
		for asked, want := range map[string][]string{"hkeys": names, "hvals": values, "hgetall": both} {
			r := mustRun(t, s, 10, asked, "q")
			if got := bulksOf(t, r); strings.Join(got, "|") != strings.Join(want, "|") {
				t.Errorf("%s: %q, not %q", asked, got, want)
			}
		}
	}
}

// bulksOf is the texts of an array of bulks.
func bulksOf(t *testing.T, r api.Reply) []string {
	t.Helper()
	if r.Kind != api.ReplyArray {
		t.Fatalf("%s is no array", resp.Show(r))
	}
	var l []string
	for _, x := range r.List {
		if x.Kind != api.ReplyBulk {
			t.Fatalf("%s is no bulk", resp.Show(x))
		}
		l = append(l, x.Text)
	}
	return l
}
