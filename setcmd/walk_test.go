package setcmd

import (
	"fmt"
	"math/rand"
	"slices"
	"strings"
	"testing"

	"covenant/api"
	"covenant/glob"
	"covenant/num"
	"covenant/resp"
	"covenant/space"
)

// checkWide is check on a key w with the elements a, ab, ac, b, c, and the empty one.
func checkWide(t *testing.T, rows []row) {
	t.Helper()
	for _, x := range rows {
		s := begin()
		s.Put("w", aSet("", "a", "ab", "ac", "b", "c"), 20)
		was := told(s)
		r, ok, changes := done(s, 10, words(x.line))
		if !ok || resp.Show(r) != x.reply || changes != "" || told(s) != was {
			t.Errorf("%q: %s, %v, changes: %s; wanted %s", x.line, resp.Show(r), ok, changes, x.reply)
		}
	}
}

// 21.6: SSCAN looks at the next elements, from the cursor on, ten if no COUNT is told.
func TestScan(t *testing.T) {
	check(t, 10, []row{
		{"sscan s 0", `["0", ["a", "b", "c"]]`, ""},
		{"sscan s >", `["0", ["a", "b", "c"]]`, ""},
		{"sscan s >a", `["0", ["b", "c"]]`, ""},
		{"sscan late 0 count 1", `[">b", ["b"]]`, ""},
		{"sscan late >b count 1", `["0", ["p"]]`, ""},
		{"SSCAN soon 0", `["0", ["r"]]`, ""},
		{"sscan q 0", `["0", []]`, ""}, {"sscan q >a count 1", `["0", []]`, ""}, {"sscan over 0", `["0", []]`, ""}, {"sscan past >", `["0", []]`, ""}, {"sscan lost 0 match *", `["0", []]`, ""}, {"sscan '' 0", `["0", []]`, ""},
	})
	all := `"", "a", "ab", "ac", "b"`
	checkWide(t, []row{
		{"sscan w 0", `["0", [` + all + `, "c"]]`, ""},
		{"sscan w 0 count 5", `[">b", [` + all + `]]`, ""},
		{"sscan w 0 count 6", `["0", [` + all + `, "c"]]`, ""},
		{"sscan w 0 count 7", `["0", [` + all + `, "c"]]`, ""},
		{"sscan w 0 COUNT 9223372036854775807", `["0", [` + all + `, "c"]]`, ""},
		{"sscan w 0 count 1", `[">", [""]]`, ""},
		{"sscan w > count 1", `[">a", ["a"]]`, ""},
		{"sscan w > count 2", `[">ab", ["a", "ab"]]`, ""},
		{"sscan w >ab count 2", `[">b", ["ac", "b"]]`, ""},
		// The cursor's element needn't be there.
		{"sscan w >aa count 2", `[">ac", ["ab", "ac"]]`, ""},
		{"sscan w >0 count 1", `[">a", ["a"]]`, ""},
		{"sscan w >> count 1", `[">a", ["a"]]`, ""},
		{"sscan w >b count 1", `["0", ["c"]]`, ""},
		{"sscan w >b", `["0", ["c"]]`, ""},
		{"sscan w >ba count 1", `["0", ["c"]]`, ""},
		{"sscan w >c", `["0", []]`, ""},
		{"sscan w >c count 1", `["0", []]`, ""},
		{"sscan w >zz match *", `["0", []]`, ""},
		{"sscan w >\xff", `["0", []]`, ""},
	})
	refusedKeys(t, "sscan K 0")
	refusedKeys(t, "sscan K >a match x count 1")
}

// 21.6: of the elements that are looked at those are told that MATCH takes; the cursor goes by what was looked at.
func TestScanMatch(t *testing.T) {
	checkWide(t, []row{
		{"sscan w 0 match a*", `["0", ["a", "ab", "ac"]]`, ""},
		{"sscan w 0 MATCH a* COUNT 1", `[">", []]`, ""},
		{"sscan w 0 COUNT 3 Match a?", `[">ab", ["ab"]]`, ""},
		{"sscan w 0 Match a? cOUNT 3", `[">ab", ["ab"]]`, ""},
		{"sscan w >ab count 2 match a?", `[">b", ["ac"]]`, ""},
		{"sscan w 0 match q", `["0", []]`, ""},
		{"sscan w 0 match '' count 2", `[">a", [""]]`, ""},
		{"sscan w 0 match A*", `["0", []]`, ""},
		{"sscan w >b match c count 1", `["0", ["c"]]`, ""},
		{"sscan w 0 match [b-c]", `["0", ["b", "c"]]`, ""},
		{`sscan w 0 match \a`, `["0", ["a"]]`, ""},
		// What stands behind MATCH is a pattern, whatever word it is.
		{"sscan w 0 match count", `["0", []]`, ""},
		{"sscan w 0 match match count 1", `[">", []]`, ""},
		{"sscan w 0 match count count 1", `[">", []]`, ""},
		{"sscan w 0 count 1 match count", `[">", []]`, ""},
		{"sscan w 0 match 0", `["0", []]`, ""},
	})
}

// 21.6: a cursor is 0, or begins with >, whatever the key holds.
func TestScanCursor(t *testing.T) {
	for _, key := range []string{"s", "q", "over", "string"} {
		for _, cursor := range []string{"1", "''", "a", "00", "-0", "0x", "-1", "<a", "a>", "\x00>", "0>", "10 count 1", "1 match a", "match a", "x count 0", "x foo", "x count x", "x match"} {
			fails(t, 10, api.TextCursor, "sscan "+key+" "+cursor)
		}
	}
}

// 21.6: COUNT has a number from 1 on; each option has what must stand behind it, and stands once at most.
func TestScanOptions(t *testing.T) {
	for _, key := range []string{"s", "q", "over", "string"} {
		for _, options := range []string{
			"0 count 0", "0 count -1", "0 count -9223372036854775808", ">a count 0", "0 count 0 count 1",
			"0 match", "0 count", ">a match", "0 match a count", "0 count 1 match", "0 match match match",
			"0 foo", "0 foo 1", "0 ''", "0 1", "0 match a foo", "0 foo match a", "0 count 1 b", "0 matc a", "0 counts 1", "0 novalues", "0 foo count x", "0 count 0 count x", "0 count 0 foo", "0 count 0 match",
			"0 match a match a", "0 match a match b", "0 MATCH a Match *", "0 count 1 count 1", "0 COUNT 1 count 2", "0 count 1 count 0", "0 count 1 count x", "0 match a count 1 match a", "0 count 1 match a count 1", "0 match a count 1 count x", "0 match a match b count x", "0 count 1 match a count", "0 match a count 1 match", "0 match a count 1 foo", "0 match a count 1 foo 1",
		} {
			fails(t, 10, api.TextSyntax, "sscan "+key+" "+options)
		}
		for _, options := range []string{"0 count x", "0 count 01", "0 count +1", "0 count 9223372036854775808", "0 count match", "0 count count 1", "0 count x foo", "0 count x count 0", "0 count x count 1", "0 match a count x match", "0 match a count x match b", "0 count x match a match b"} {
			fails(t, 10, api.TextNumber, "sscan "+key+" "+options)
		}
	}
	for _, word := range noNumbers() {
		fails(t, 10, api.TextNumber, "sscan s 0 count "+word, "sscan s >a match x count "+word)
	}
}

// 21.6: without COUNT ten elements are looked at.
func TestScanTen(t *testing.T) {
	s := space.New()
	for n := range 25 {
		mustRun(t, s, 10, "sadd", "s", fmt.Sprintf("f%02d", n))
	}
	for _, x := range []struct {
		cursor, next string
		told         int
	}{{"0", ">f09", 10}, {">f09", ">f19", 10}, {">f19", "0", 5}, {">f13", ">f23", 10}, {">f14", "0", 10}, {">f24", "0", 0}} {
		for _, options := range [][]string{nil, {"MATCH", "*"}} {
			r := mustRun(t, s, 10, append([]string{"sscan", "s", x.cursor}, options...)...)
			if r.List[0].Text != x.next || len(r.List[1].List) != x.told {
				t.Errorf("sscan %s: %s", x.cursor, resp.Show(r))
			}
		}
	}
}

// scanned asks SSCAN of s from 0 on until it tells 0, doing something between two askings, and gives the elements that were told.
func scanned(t *testing.T, s *space.Space, now int, between func(), options ...string) []string {
	t.Helper()
	var all []string
	cursor := "0"
	for asked := 0; ; asked++ {
		r := mustRun(t, s, now, append([]string{"sscan", "s", cursor}, options...)...)
		if r.Kind != api.ReplyArray || len(r.List) != 2 || r.List[0].Kind != api.ReplyBulk {
			t.Fatalf("sscan %q: %s", cursor, resp.Show(r))
		}
		all = append(all, bulksOf(t, r.List[1])...)
		cursor = r.List[0].Text
		if cursor == "0" {
			return all
		}
		if asked > 10000 {
			t.Fatalf("the walk goes on at %q", cursor)
		}
		between()
	}
}

// 21.7: a walk tells all elements, rising, whatever COUNT; with MATCH those that it takes.
func TestWalkAll(t *testing.T) {
	elements := []string{"", "0", ">", ">a", "\xff", "\x00", "a", "ab", "abc", "b", "late", "led", "*", "z\x00", "A"}
	slices.Sort(elements)
	for most := 1; most < 20; most++ {
		s := begin()
		s.Put("s", aSet(elements...), 11)
		was := told(s)
		if got := scanned(t, s, 10, func() {}, "count", num.Print(most)); !slices.Equal(got, elements) {
			t.Errorf("count %d: %q, not %q", most, got, elements)
		}
		for _, pattern := range []string{"*", "l*", "?", "q", "", "*b", "[^a-l]*", ">*", `\*`} {
			got := scanned(t, s, 10, func() {}, "match", pattern, "COUNT", num.Print(most))
			var want []string
			for _, element := range elements {
				if glob.Match(pattern, element) {
					want = append(want, element)
				}
			}
			if !slices.Equal(got, want) {
				t.Errorf("count %d match %q: %q, not %q", most, pattern, got, want)
			}
		}
		if got := scanned(t, s, 11, func() {}, "count", num.Print(most)); len(got) != 0 || told(s) != was {
			t.Errorf("%q, %s became %s", got, was, told(s))
		}
	}
}

// 21.7: while other elements come and go, each one that is there all the while is told, once, and none twice.
func TestWalkMeanwhile(t *testing.T) {
	for seed := range int64(300) {
		r := rand.New(rand.NewSource(seed))
		s := space.New()
		stays := map[string]bool{}
		for n := range 30 {
			element := fmt.Sprint("f", r.Intn(100))
			if n%2 == 0 {
				element = string([]byte{byte(r.Intn(256)), byte(r.Intn(256))})
				stays[element] = true
			}
			mustRun(t, s, 10, "sadd", "s", element)
		}
		change := func() {
			for range r.Intn(4) {
				element := fmt.Sprint("f", r.Intn(100))
				if !stays[element] && r.Intn(2) == 0 {
					mustRun(t, s, 10, "smove", "s", "gone", element)
				} else {
					mustRun(t, s, 10, "sadd", "s", element)
				}
			}
		}
		seen := map[string]int{}
		for _, element := range scanned(t, s, 10, change, "count", num.Print(1+r.Intn(5))) {
			seen[element]++
			if seen[element] > 1 {
				t.Errorf("seed %d: %q is told twice", seed, element)
			}
		}
		for element := range stays {
			if seen[element] != 1 {
				t.Errorf("seed %d: %q is told %d times", seed, element, seen[element])
			}
		}
	}
}

// 21.7: a walk goes on, and ends, where the set is gone meanwhile.
func TestWalkOverWhatIsGone(t *testing.T) {
	for gone, want := range map[string]string{"srem s a b c": "a", "srem s b c": "a", "srem s a": "a b c", "spop s 9": "a", "sinterstore s q": "a", "sunionstore s t": "a b c d"} {
		s := begin()
		told := scanned(t, s, 10, func() { mustRun(t, s, 10, words(gone)...) }, "COUNT", "1")
		if strings.Join(told, " ") != want {
			t.Errorf("%s: %q", gone, told)
		}
	}
}
