package keycmd

import (
	"fmt"
	"math"
	"math/rand"
	"slices"
	"strings"
	"testing"

	"covenant/api"
	"covenant/glob"
	"covenant/num"
	"covenant/resp"
	"covenant/space"
)

// P18.6: KEYS tells the keys that are there and that the pattern takes, rising.
func TestKeys(t *testing.T) {
	check(t, 10, []row{
		{"keys *", `["a", "e", "hash", "late", "led", "list", "set", "seta", "soon", "zset"]`, ""},
		{"keys l*", `["late", "led", "list"]`, ""},
		{"KEYS l?st", `["list"]`, ""},
		{"keys ?", `["a", "e"]`, ""},
		{"keys [a-e]", `["a", "e"]`, ""},
		{"keys *t", `["list", "set", "zset"]`, ""},
		{"keys a", `["a"]`, ""},
		{"keys A", `[]`, ""},
		{"keys q", `[]`, ""},
		{"keys over", `[]`, ""},
		{"keys past*", `[]`, ""},
		{"keys ''", `[]`, ""},
		{`keys \*`, `[]`, ""},
	})
	check(t, 11, []row{{"keys s*", `["set", "seta"]`, ""}, {"keys so*", `[]`, ""}})
	check(t, 0, []row{{"keys *d", `["led", "zed"]`, ""}})
	s := space.New()
	if r := mustRun(t, s, 10, "keys", "*"); r.Kind != api.ReplyArray || len(r.List) != 0 {
		t.Errorf("keys of nothing: %s", resp.Show(r))
	}
	for _, key := range []string{"\xff", "b", "", "*", "ab", "a\x00", "a", "A"} {
		s.Put(key, aText("x"), 0)
	}
	for pattern, want := range map[string]string{"*": `["", "*", "A", "a", "a\x00", "ab", "b", "\xff"]`, "": `[""]`, `\*`: `["*"]`, "?*": `["*", "A", "a", "a\x00", "ab", "b", "\xff"]`, "a?": `["a\x00", "ab"]`} {
		r := mustRun(t, s, 10, "keys", pattern)
		if resp.Show(r) != want {
			t.Errorf("keys %q: %s", pattern, resp.Show(r))
		}
		for _, key := range r.List {
			if key.Kind != api.ReplyBulk {
				t.Errorf("keys %q: %v", pattern, key)
			}
		}
	}
}

// P18.6: SCAN looks at the next keys that are there, from the cursor on, ten if no COUNT is told.
func TestScan(t *testing.T) {
	all := `"a", "e", "hash", "late", "led", "list", "set", "seta", "soon", "zset"`
	check(t, 10, []row{
		{"scan 0", `["0", [` + all + `]]`, ""},
		{"scan 0 count 9", `[">soon", [` + strings.TrimSuffix(all, `, "zset"`) + `]]`, ""},
		{"scan 0 count 10", `["0", [` + all + `]]`, ""},
		{"scan 0 count 11", `["0", [` + all + `]]`, ""},
		{"SCAN 0 COUNT 9223372036854775807", `["0", [` + all + `]]`, ""},
		{"scan 0 count 1", `[">a", ["a"]]`, ""},
		{"scan >a count 2", `[">hash", ["e", "hash"]]`, ""},
		{"scan >hash count 2", `[">led", ["late", "led"]]`, ""},
		// The cursor's key needn't be there: it may be absent, over, ahead of all or behind the last.
		{"scan >b count 2", `[">hash", ["e", "hash"]]`, ""},
		{"scan >over count 2", `[">seta", ["set", "seta"]]`, ""},
		{"scan > count 2", `[">e", ["a", "e"]]`, ""},
		{"scan >0 count 2", `[">e", ["a", "e"]]`, ""},
		{"scan >soon count 1", `["0", ["zset"]]`, ""},
		{"scan >soon", `["0", ["zset"]]`, ""},
		{"scan >soona count 1", `["0", ["zset"]]`, ""},
		{"scan >zset", `["0", []]`, ""},
		{"scan >zset count 1", `["0", []]`, ""},
		{"scan >zz match *", `["0", []]`, ""},
		{"scan >\xff", `["0", []]`, ""},
	})
	check(t, 0, []row{
		{"scan >lost", `["0", ["over", "past", "set", "seta", "soon", "zed", "zset"]]`, ""},
		{"scan 0", `[">set", ["a", "e", "hash", "late", "led", "list", "lost", "over", "past", "set"]]`, ""},
	})
}

// P18.6: of the keys that are looked at those are told that MATCH takes; the cursor goes by what was looked at.
func TestScanMatch(t *testing.T) {
	check(t, 10, []row{
		{"scan 0 match l*", `["0", ["late", "led", "list"]]`, ""},
		{"scan 0 MATCH l* COUNT 2", `[">e", []]`, ""},
		{"scan 0 COUNT 4 Match l*", `[">late", ["late"]]`, ""},
		{"scan >late count 2 match l*", `[">list", ["led", "list"]]`, ""},
		{"scan 0 match q", `["0", []]`, ""},
		{"scan 0 match '' count 3", `[">hash", []]`, ""},
		{"scan 0 match A*", `["0", []]`, ""},
		{"scan >seta match z* count 1", `[">soon", []]`, ""},
		// Of several the last one holds.
		{"scan 0 match a match l*", `["0", ["late", "led", "list"]]`, ""},
		{"scan 0 count 1 count 2", `[">e", ["a", "e"]]`, ""},
		{"scan 0 count 2 match e count 1 match a", `[">a", ["a"]]`, ""},
		{"scan 0 match l* match *", `["0", ["a", "e", "hash", "late", "led", "list", "set", "seta", "soon", "zset"]]`, ""},
		// What stands behind MATCH is a pattern, whatever word it is.
		{"scan 0 match count", `["0", []]`, ""},
		{"scan 0 match match count 1", `[">a", []]`, ""},
		{"scan 0 match count count 1", `[">a", []]`, ""},
	})
}

// P18.6: a cursor is 0, or begins with >.
func TestScanCursor(t *testing.T) {
	fails(t, 10, api.TextCursor, "scan 1", "scan ''", "scan a", "scan 00", "scan -0", "scan 0x", "scan -1", "scan <a", "scan a>", "scan \x00>", "scan 0>", "scan 10 count 1", "scan 1 match a", "scan match a")
}

// P18.6: COUNT has a number from 1 on; each option has what must stand behind it.
func TestScanOptions(t *testing.T) {
	fails(t, 10, api.TextSyntax,
		"scan 0 count 0", "scan 0 count -1", "scan 0 count -9223372036854775808", "scan >a count 0", "scan 0 count 0 count 1", "scan 0 count 1 count 0",
		"scan 0 match", "scan 0 count", "scan >a match", "scan 0 match a count", "scan 0 count 1 match", "scan 0 match match match",
		"scan 0 foo", "scan 0 foo 1", "scan 0 ''", "scan 0 1", "scan 0 match a foo", "scan 0 foo match a", "scan 0 count 1 b", "scan 0 matc a", "scan 0 counts 1", "scan 0 type string", "scan 0 foo count x", "scan 0 count 0 count x",
	)
	fails(t, 10, api.TextNumber, "scan 0 count x", "scan 0 count ''", "scan 0 count 01", "scan 0 count +1", "scan 0 count -0", "scan 0 count 9223372036854775808", "scan 0 count match", "scan 0 count count 1", "scan 0 count x foo", "scan 0 count x count 0", "scan 0 match a count x match")
}

// P18.6: without COUNT ten keys are looked at.
func TestScanTen(t *testing.T) {
	s := space.New()
	for n := range 25 {
		s.Put(fmt.Sprintf("k%02d", n), aText("x"), 0)
	}
	s.Put("k00a", aText("x"), 10)
	for _, x := range []struct {
		cursor, next string
		told         int
	}{{"0", ">k09", 10}, {">k09", ">k19", 10}, {">k19", "0", 5}, {">k13", ">k23", 10}, {">k14", "0", 10}, {">k24", "0", 0}} {
		r := mustRun(t, s, 10, "scan", x.cursor)
		if r.List[0].Text != x.next || len(r.List[1].List) != x.told {
			t.Errorf("scan %s: %s", x.cursor, resp.Show(r))
		}
	}
}

// scanned asks SCAN from 0 on until it tells 0, doing something between two askings, and gives what was told.
func scanned(t *testing.T, s *space.Space, now int, between func(), options ...string) []string {
	t.Helper()
	var all []string
	cursor := "0"
	for asked := 0; ; asked++ {
		r := mustRun(t, s, now, append([]string{"scan", cursor}, options...)...)
		if r.Kind != api.ReplyArray || len(r.List) != 2 || r.List[0].Kind != api.ReplyBulk || r.List[1].Kind != api.ReplyArray {
			t.Fatalf("scan %q: %s", cursor, resp.Show(r))
		}
		for _, key := range r.List[1].List {
			all = append(all, key.Text)
		}
		cursor = r.List[0].Text
		if cursor == "0" {
			return all
		}
		if asked > 10000 {
			t.Fatalf("the walk goes on at %q", cursor)
		}
		between()
	}
}

// P18.9: a walk tells all keys, rising, whatever COUNT; with MATCH those that it takes.
func TestWalkAll(t *testing.T) {
	for _, now := range []int{-1, 0, 1, 10, 11, 1000, math.MaxInt} {
		for most := 1; most < 20; most++ {
			s := begin()
			for _, key := range []string{"", "0", ">", ">a", "\xff", "\x00"} {
				s.Put(key, aText("x"), 0)
			}
			was := told(s)
			if got := scanned(t, s, now, func() {}, "count", num.Print(most)); !slices.Equal(got, s.Keys(now)) {
				t.Errorf("count %d at %d: %q, not %q", most, now, got, s.Keys(now))
			}
			for _, pattern := range []string{"*", "l*", "?", "q", "", "*t", "[^a-l]*", ">*"} {
				got := scanned(t, s, now, func() {}, "match", pattern, "COUNT", num.Print(most))
				var want []string
				for _, key := range s.Keys(now) {
					if glob.Match(pattern, key) {
						want = append(want, key)
					}
				}
				if !slices.Equal(got, want) {
					t.Errorf("count %d match %q at %d: %q, not %q", most, pattern, now, got, want)
				}
			}
			if told(s) != was {
				t.Errorf("%s became %s", was, told(s))
			}
		}
	}
	if got := scanned(t, space.New(), 0, func() {}); len(got) != 0 {
		t.Errorf("a walk over nothing: %q", got)
	}
}

// P18.9: while other keys come and go, each key that is there all the while is told, once, and none twice.
func TestWalkMeanwhile(t *testing.T) {
	for seed := range int64(300) {
		r := rand.New(rand.NewSource(seed))
		s := space.New()
		stays := map[string]bool{}
		for n := range 30 {
			key := fmt.Sprint("k", r.Intn(100))
			if n%2 == 0 {
				key = string([]byte{byte(r.Intn(256)), byte(r.Intn(256))})
				stays[key] = true
			}
			s.Put(key, aText("x"), 0)
		}
		change := func() {
			for range r.Intn(4) {
				key := fmt.Sprint("k", r.Intn(100))
				if !stays[key] && r.Intn(2) == 0 {
					s.Drop(key)
				} else {
					s.Put(key, aText("y"), 0)
				}
			}
		}
		got := scanned(t, s, 10, change, "count", num.Print(1+r.Intn(5)))
		seen := map[string]int{}
		for _, key := range got {
			seen[key]++
			if seen[key] > 1 {
				t.Errorf("seed %d: %q is told twice", seed, key)
			}
		}
		for key := range stays {
			if seen[key] != 1 {
				t.Errorf("seed %d: %q is told %d times", seed, key, seen[key])
			}
		}
	}
}
