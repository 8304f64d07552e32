package hashcmd

import (
	"fmt"
	"math/rand"
	"slices"
	"strings"
	"testing"

	"covenant/api"
	"covenant/dict"
	"covenant/glob"
	"covenant/num"
	"covenant/resp"
	"covenant/space"
)

// checkWide is check on a key w with the fields a 1, ab 2, ac 3, b 4, c 5, and one whose name is empty.
func checkWide(t *testing.T, rows []row) {
	t.Helper()
	for _, x := range rows {
		s := begin()
		s.Put("w", aHash("", "0", "a", "1", "ab", "2", "ac", "3", "b", "4", "c", "5"), 20)
		was := told(s)
		r, ok, changes := done(s, 10, words(x.line))
		if !ok || resp.Show(r) != x.reply || changes != "" || told(s) != was {
			t.Errorf("%q: %s, %v, changes: %s; wanted %s", x.line, resp.Show(r), ok, changes, x.reply)
		}
	}
}

// P20.4: HSCAN looks at the next names, from the cursor on, ten if no COUNT is told, and tells each with its value.
func TestScan(t *testing.T) {
	check(t, 10, []row{
		{"hscan h 0", `["0", ["a", "1", "b", "x", "c", "-3"]]`, ""},
		{"hscan h >", `["0", ["a", "1", "b", "x", "c", "-3"]]`, ""},
		{"hscan h >a", `["0", ["b", "x", "c", "-3"]]`, ""},
		{"hscan late 0 count 1", `[">p", ["p", "7"]]`, ""},
		{"hscan late >p count 1", `["0", ["q", ""]]`, ""},
		{"hscan soon 0", `["0", ["r", "1"]]`, ""},
		{"hscan q 0", `["0", []]`, ""}, {"hscan q >a count 1", `["0", []]`, ""}, {"hscan over 0", `["0", []]`, ""}, {"hscan past >", `["0", []]`, ""}, {"hscan lost 0 match *", `["0", []]`, ""}, {"hscan '' 0", `["0", []]`, ""},
	})
	all := `"", "0", "a", "1", "ab", "2", "ac", "3", "b", "4"`
	checkWide(t, []row{
		{"hscan w 0", `["0", [` + all + `, "c", "5"]]`, ""},
		{"hscan w 0 count 5", `[">b", [` + all + `]]`, ""},
		{"hscan w 0 count 6", `["0", [` + all + `, "c", "5"]]`, ""},
		{"hscan w 0 count 7", `["0", [` + all + `, "c", "5"]]`, ""},
		{"HSCAN w 0 COUNT 9223372036854775807", `["0", [` + all + `, "c", "5"]]`, ""},
		{"hscan w 0 count 1", `[">", ["", "0"]]`, ""},
		{"hscan w > count 1", `[">a", ["a", "1"]]`, ""},
		{"hscan w > count 2", `[">ab", ["a", "1", "ab", "2"]]`, ""},
		{"hscan w >ab count 2", `[">b", ["ac", "3", "b", "4"]]`, ""},
		// The cursor's name needn't be there.
		{"hscan w >aa count 2", `[">ac", ["ab", "2", "ac", "3"]]`, ""},
		{"hscan w >0 count 1", `[">a", ["a", "1"]]`, ""},
		{"hscan w >> count 1", `[">a", ["a", "1"]]`, ""},
		{"hscan w >b count 1", `["0", ["c", "5"]]`, ""},
		{"hscan w >b", `["0", ["c", "5"]]`, ""},
		{"hscan w >ba count 1", `["0", ["c", "5"]]`, ""},
		{"hscan w >c", `["0", []]`, ""},
		{"hscan w >c count 1", `["0", []]`, ""},
		{"hscan w >zz match *", `["0", []]`, ""},
		{"hscan w >\xff", `["0", []]`, ""},
	})
	refusedKeys(t, "hscan K 0")
	refusedKeys(t, "hscan K >a match x count 1")
}

// P20.4: of the names that are looked at those are told that MATCH takes; the cursor goes by what was looked at.
func TestScanMatch(t *testing.T) {
	checkWide(t, []row{
		{"hscan w 0 match a*", `["0", ["a", "1", "ab", "2", "ac", "3"]]`, ""},
		{"hscan w 0 MATCH a* COUNT 1", `[">", []]`, ""},
		{"hscan w 0 COUNT 3 Match a?", `[">ab", ["ab", "2"]]`, ""},
		{"hscan w >ab count 2 match a?", `[">b", ["ac", "3"]]`, ""},
		{"hscan w 0 match q", `["0", []]`, ""},
		{"hscan w 0 match '' count 2", `[">a", ["", "0"]]`, ""},
		{"hscan w 0 match A*", `["0", []]`, ""},
		// The pattern is for names: a value that it would take is not told for it.
		{"hscan w 0 match 1", `["0", []]`, ""},
		{"hscan w >b match c count 1", `["0", ["c", "5"]]`, ""},
		{"hscan w 0 match [b-c]", `["0", ["b", "4", "c", "5"]]`, ""},
		{`hscan w 0 match \a`, `["0", ["a", "1"]]`, ""},
		// Of several the last one holds.
		{"hscan w 0 match b match a", `["0", ["a", "1"]]`, ""},
		{"hscan w 0 count 1 count 2", `[">a", ["", "0", "a", "1"]]`, ""},
		{"hscan w 0 count 2 match b count 1 match ''", `[">", ["", "0"]]`, ""},
		{"hscan w >ac match c match *", `["0", ["b", "4", "c", "5"]]`, ""},
		// What stands behind MATCH is a pattern, whatever word it is.
		{"hscan w 0 match count", `["0", []]`, ""},
		{"hscan w 0 match match count 1", `[">", []]`, ""},
		{"hscan w 0 match count count 1", `[">", []]`, ""},
	})
}

// P20.4: a cursor is 0, or begins with >, whatever the key holds.
func TestScanCursor(t *testing.T) {
	for _, key := range []string{"h", "q", "over", "string"} {
		for _, cursor := range []string{"1", "''", "a", "00", "-0", "0x", "-1", "<a", "a>", "\x00>", "0>", "10 count 1", "1 match a", "match a", "x count 0", "x foo"} {
			fails(t, 10, api.TextCursor, "hscan "+key+" "+cursor)
		}
	}
}

// P20.4: COUNT has a number from 1 on; each option has what must stand behind it.
func TestScanOptions(t *testing.T) {
	for _, key := range []string{"h", "q", "over", "string"} {
		for _, options := range []string{
			"0 count 0", "0 count -1", "0 count -9223372036854775808", ">a count 0", "0 count 0 count 1", "0 count 1 count 0",
			"0 match", "0 count", ">a match", "0 match a count", "0 count 1 match", "0 match match match",
			"0 foo", "0 foo 1", "0 ''", "0 1", "0 match a foo", "0 foo match a", "0 count 1 b", "0 matc a", "0 counts 1", "0 novalues", "0 foo count x", "0 count 0 count x", "0 count 0 foo",
		} {
			fails(t, 10, api.TextSyntax, "hscan "+key+" "+options)
		}
		for _, options := range []string{"0 count x", "0 count 01", "0 count +1", "0 count 9223372036854775808", "0 count match", "0 count count 1", "0 count x foo", "0 count x count 0", "0 match a count x match"} {
			fails(t, 10, api.TextNumber, "hscan "+key+" "+options)
		}
	}
	for _, word := range noNumbers() {
		fails(t, 10, api.TextNumber, "hscan h 0 count "+word, "hscan h >a match x count "+word)
	}
}

// P20.4: without COUNT ten names are looked at.
func TestScanTen(t *testing.T) {
	s := space.New()
	for n := range 25 {
		mustRun(t, s, 10, "hset", "h", fmt.Sprintf("f%02d", n), num.Print(n))
	}
	for _, x := range []struct {
		cursor, next string
		told         int
	}{{"0", ">f09", 10}, {">f09", ">f19", 10}, {">f19", "0", 5}, {">f13", ">f23", 10}, {">f14", "0", 10}, {">f24", "0", 0}} {
		for _, options := range [][]string{nil, {"MATCH", "*"}} {
			r := mustRun(t, s, 10, append([]string{"hscan", "h", x.cursor}, options...)...)
			if r.List[0].Text != x.next || len(r.List[1].List) != 2*x.told {
				t.Errorf("hscan %s: %s", x.cursor, resp.Show(r))
			}
		}
	}
}

// scanned asks HSCAN of h from 0 on until it tells 0, doing something between two askings, and gives the fields that were told.
func scanned(t *testing.T, s *space.Space, now int, between func(), options ...string) []api.Field {
	t.Helper()
	var all []api.Field
	cursor := "0"
	for asked := 0; ; asked++ {
		r := mustRun(t, s, now, append([]string{"hscan", "h", cursor}, options...)...)
		if r.Kind != api.ReplyArray || len(r.List) != 2 || r.List[0].Kind != api.ReplyBulk {
			t.Fatalf("hscan %q: %s", cursor, resp.Show(r))
		}
		texts := bulksOf(t, r.List[1])
		for i := 0; i < len(texts); i += 2 {
			all = append(all, api.Field{Name: texts[i], Value: texts[i+1]})
		}
		cursor = r.List[0].Text
		if cursor == "0" {
			return all
		}
		if asked > 10000 {
			t.Fatalf("the walk goes on at %q", cursor)
		}
		between()
	}
}

// P20.6: a walk tells all fields, rising, whatever COUNT; with MATCH those that it takes.
func TestWalkAll(t *testing.T) {
	d, _ := dict.Of(nil)
	for _, name := range []string{"", "0", ">", ">a", "\xff", "\x00", "a", "ab", "abc", "b", "late", "led", "*", "z\x00", "A"} {
		d.Set(name, "<"+name)
	}
	for most := 1; most < 20; most++ {
		s := begin()
		s.Put("h", api.Value{Kind: api.KindHash, Fields: d.Fields()}, 11)
		was := told(s)
		if got := scanned(t, s, 10, func() {}, "count", num.Print(most)); !slices.Equal(got, d.Fields()) {
			t.Errorf("count %d: %q, not %q", most, got, d.Fields())
		}
		for _, pattern := range []string{"*", "l*", "?", "q", "", "*b", "[^a-l]*", ">*", `\*`} {
			got := scanned(t, s, 10, func() {}, "match", pattern, "COUNT", num.Print(most))
			var want []api.Field
			for name, value := range d.All() {
				if glob.Match(pattern, name) {
					want = append(want, api.Field{Name: name, Value: value})
				}
			}
			if !slices.Equal(got, want) {
				t.Errorf("count %d match %q: %q, not %q", most, pattern, got, want)
			}
		}
		if got := scanned(t, s, 11, func() {}, "count", num.Print(most)); len(got) != 0 || told(s) != was {
			t.Errorf("%q, %s became %s", got, was, told(s))
		}
	}
}

// P20.6: while other fields come and go, each name that is there all the while is told, once, and none twice.
func TestWalkMeanwhile(t *testing.T) {
	for seed := range int64(300) {
		r := rand.New(rand.NewSource(seed))
		s := space.New()
		stays := map[string]bool{}
		for n := range 30 {
			name := fmt.Sprint("f", r.Intn(100))
			if n%2 == 0 {
				name = string([]byte{byte(r.Intn(256)), byte(r.Intn(256))})
				stays[name] = true
			}
			mustRun(t, s, 10, "hset", "h", name, "x")
		}
		change := func() {
			for range r.Intn(4) {
				name := fmt.Sprint("f", r.Intn(100))
				if !stays[name] && r.Intn(2) == 0 {
					mustRun(t, s, 10, "hdel", "h", name)
				} else {
					mustRun(t, s, 10, "hset", "h", name, "y")
				}
			}
		}
		seen := map[string]int{}
		for _, f := range scanned(t, s, 10, change, "count", num.Print(1+r.Intn(5))) {
			seen[f.Name]++
			if seen[f.Name] > 1 {
				t.Errorf("seed %d: %q is told twice", seed, f.Name)
			}
		}
		for name := range stays {
			if seen[name] != 1 {
				t.Errorf("seed %d: %q is told %d times", seed, name, seen[name])
			}
		}
	}
}

// P20.6: a walk goes on, and ends, where the hash is gone meanwhile.
func TestWalkOverWhatIsGone(t *testing.T) {
	for _, gone := range []string{"hdel h a b c", "hdel h b c", "hdel h a"} {
		s := begin()
		got := scanned(t, s, 10, func() { mustRun(t, s, 10, words(gone)...) }, "COUNT", "1")
		var told []string
		for _, f := range got {
			told = append(told, f.Name)
		}
		want := "a"
		if gone == "hdel h a" {
			want = "a b c"
		}
		if strings.Join(told, " ") != want {
			t.Errorf("%s: %q", gone, told)
		}
	}
}
