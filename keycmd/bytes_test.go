package keycmd

import (
	"strings"
	"testing"

	"covenant/api"
	"covenant/num"
	"covenant/resp"
	"covenant/space"
	"covenant/value"
)

// bytesOf is the bytes of a value.
func bytesOf(t *testing.T, v api.Value) string {
	t.Helper()
	b, e := value.Encode(v)
	if e != api.OK {
		t.Fatalf("%v: %d", v, e)
	}
	return b
}

// P18.7: DUMP tells the bytes of what is there, of each kind.
func TestDump(t *testing.T) {
	check(t, 10, []row{
		{"dump a", `"\x01\x01\x00\x00\x001"`, ""},
		{"dump e", `"\x01\x00\x00\x00\x00"`, ""},
		{"DUMP late", `"\x01\x02\x00\x00\x00hi"`, ""},
		{"dump seta", `"\x04\x02\x00\x00\x00\x01\x00\x00\x001\x01\x00\x00\x002"`, ""},
		{"dump hash", `"\x03\x01\x00\x00\x00\x01\x00\x00\x001\x01\x00\x00\x002"`, ""},
		{"dump q", "(nil)", ""},
		{"dump ''", "(nil)", ""},
		{"dump over", "(nil)", ""},
		{"dump past", "(nil)", ""},
		{"dump lost", "(nil)", ""},
	})
	for name, v := range kinds() {
		for _, due := range []int{0, 11, 500} {
			s := space.New()
			s.Put("k", v, due)
			if r := mustRun(t, s, 10, "dump", "k"); r.Kind != api.ReplyBulk || r.Text != bytesOf(t, v) {
				t.Errorf("dump of a %s: %s", name, resp.Show(r))
			}
		}
	}
}

// P18.7: RESTORE puts the value, with the deadline that its number means.
func TestRestore(t *testing.T) {
	check(t, 10, []row{
		{"restore q 0 " + one, "OK", `put q "1" 0`},
		{"restore '' 0 " + one, "OK", `put  "1" 0`},
		{"restore q 5 " + one, "OK", `put q "1" 15`},
		{"RESTORE q 1 " + one, "OK", `put q "1" 11`},
		{"restore q 0 " + one + " ABSTTL", "OK", `put q "1" 0`},
		{"restore q 500 " + one + " absttl", "OK", `put q "1" 500`},
		{"restore q 11 " + one + " AbsTTL", "OK", `put q "1" 11`},
		{"restore q 500 " + one + " replace", "OK", `put q "1" 510`},
		{"restore over 0 " + one, "OK", `put over "1" 0`},
		{"restore past 7 " + one, "OK", `put past "1" 17`},
		{"restore lost 700 " + one + " absttl", "OK", `put lost "1" 700`},
		{"restore a 0 " + one + " REPLACE", "OK", `put a "1" 0`},
		{"restore late 0 " + one + " Replace", "OK", `put late "1" 0`},
		{"restore late 5 " + one + " replace", "OK", `put late "1" 15`},
		{"restore list 30 " + one + " replace absttl", "OK", `put list "1" 30`},
		{"restore zset 30 " + one + " absttl REPLACE", "OK", `put zset "1" 30`},
		{"restore zset 30 " + one + " absttl replace absttl replace", "OK", `put zset "1" 30`},
	})
	fails(t, 10, api.TextBusyKey, "restore a 0 "+one, "restore late 5 "+one, "restore list 0 "+one, "restore led 0 "+one, "restore soon 500 "+one+" absttl", "restore a 5 "+one+" absttl", "restore a 10 "+one+" absttl", "restore e 0 "+one)
	for name, v := range kinds() {
		s := space.New()
		if r, _, changes := done(s, 10, []string{"restore", "k", "3", bytesOf(t, v)}); r.Text != "OK" || changes != "put k "+plain(v)+" 13" {
			t.Errorf("restore of a %s: %s, changes: %s", name, resp.Show(r), changes)
		}
	}
}

// P18.7: with a deadline that has come already nothing is there behind RESTORE; what was there is dropped.
func TestRestoreOver(t *testing.T) {
	check(t, 10, []row{
		{"restore q 10 " + one + " absttl", "OK", ""},
		{"restore q 1 " + one + " absttl", "OK", ""},
		{"restore q 9 " + one + " absttl replace", "OK", ""},
		{"restore over 9 " + one + " absttl", "OK", ""},
		{"restore over 9 " + one + " absttl replace", "OK", ""},
		{"restore a 10 " + one + " absttl replace", "OK", "drop a"},
		{"restore late 9 " + one + " replace absttl", "OK", "drop late"},
		{"restore list 1 " + one + " absttl replace", "OK", "drop list"},
		{"restore a 11 " + one + " absttl replace", "OK", `put a "1" 11`},
		{"restore a 0 " + one + " absttl replace", "OK", `put a "1" 0`},
	})
}

// P18.7: the number is from 0 to MaxTick, and the deadline at most MaxTick.
func TestRestoreDeadline(t *testing.T) {
	check(t, 0, []row{{"restore q 9007199254740992 " + one, "OK", `put q "1" 9007199254740992`}})
	check(t, 10, []row{
		{"restore q 9007199254740982 " + one, "OK", `put q "1" 9007199254740992`},
		{"restore q 9007199254740992 " + one + " absttl", "OK", `put q "1" 9007199254740992`},
	})
	fails(t, 10, api.TextDeadline,
		"restore q -1 "+one, "restore q -9223372036854775808 "+one, "restore q -1 "+one+" absttl", "restore a -1 "+one+" replace",
		"restore q 9007199254740993 "+one, "restore q 9007199254740993 "+one+" absttl", "restore q 9223372036854775807 "+one, "restore q 9223372036854775807 "+one+" absttl",
		"restore q 9007199254740983 "+one, "restore q 9007199254740992 "+one, "restore a 9007199254740992 "+one+" replace", "restore a 9007199254740983 "+one,
	)
	for _, n := range []string{"x", "''", "+1", "01", "-0", "1.5", "9223372036854775808", "replace", "0x0"} {
		fails(t, 10, api.TextNumber, "restore q "+n+" "+one, "restore a "+n+" "+one, "restore q "+n+" x foo", "restore q "+n+" "+one+" absttl")
	}
}

// P18.7: the bytes are those of a value, all of them.
func TestRestoreBytes(t *testing.T) {
	for _, b := range []string{"", "x", one[:5], one + "x", one + one, one + "\x00", "\x00", "\x06" + one[1:], "\x00" + one[1:], "\x02\x00\x00\x00\x00", "\x04\x02\x00\x00\x00\x01\x00\x00\x00b\x01\x00\x00\x00a", "\x01\xff\xff\xff\xff1", "1"} {
		for _, args := range [][]string{{"restore", "q", "0", b}, {"restore", "a", "0", b}, {"restore", "a", "5", b, "replace"}, {"restore", "q", "9007199254740992", b}, {"restore", "q", "1", b, "foo"}, {"restore", "q", "1", b, "absttl"}} {
			s := begin()
			was := told(s)
			if r, ok := Run(s, 10, args); !ok || r.Kind != api.ReplyError || r.Text != api.TextBytes || told(s) != was {
				t.Errorf("%q: %s", args, resp.Show(r))
			}
		}
	}
	// A text may be as long as a value's text, and no longer.
	for n, want := range map[int]string{api.MaxText: "OK", api.MaxText + 1: "(error) " + api.TextBytes} {
		size, _ := num.Fix(uint64(n), 4)
		s := space.New()
		if r := mustRun(t, s, 10, "restore", "k", "0", "\x01"+size+strings.Repeat("x", n)); resp.Show(r) != want {
			t.Errorf("a text of %d: %s", n, resp.Show(r))
		}
	}
}

// P18.7: REPLACE and ABSTTL alone may stand behind the bytes.
func TestRestoreOptions(t *testing.T) {
	for _, other := range []string{"foo", "''", "replace foo", "foo replace", "absttl foo", "nx", "xx", "0", "replac", "absttls", "match a", "replace\x00"} {
		fails(t, 10, api.TextSyntax, "restore q 0 "+one+" "+other, "restore a 0 "+one+" "+other, "restore a 9007199254740992 "+one+" "+other)
	}
}

// P18.10: RESTORE of what DUMP told, with 0, under another name, gives the same value; COPY, too.
func TestDumpRestored(t *testing.T) {
	values := []api.Value{
		aText(""), aText("\x00\xff\r\n "), aText(strings.Repeat("x", api.MaxText)),
		{Kind: api.KindList, List: []string{"", "", "b", "a"}},
		{Kind: api.KindHash, Fields: []api.Field{{Name: "", Value: ""}, {Name: "a", Value: "\xff"}, {Name: "b", Value: "a"}}},
		{Kind: api.KindSet, List: []string{"", "a", "b\x00"}},
		{Kind: api.KindRank, Ranked: []api.Scored{{Name: "z", Score: -api.MaxScore}, {Name: "a", Score: 0}, {Name: "b", Score: 0}, {Name: "", Score: api.MaxScore}}},
	}
	for _, v := range kinds() {
		values = append(values, v)
	}
	for _, v := range values {
		for _, due := range []int{0, 900} {
			s := space.New()
			s.Put("k", v, due)
			told := mustRun(t, s, 10, "dump", "k")
			mustRun(t, s, 10, "restore", "r", "0", told.Text)
			mustRun(t, s, 10, "copy", "k", "c")
			for _, name := range []string{"r", "c", "k"} {
				if got, there := s.Get(name, 10); !there || !value.Same(got, v) {
					t.Errorf("%.40v under %s: %.40v", v, name, got)
				}
			}
			if restored, _ := s.Due("r", 10); restored != 0 {
				t.Errorf("%.40v: deadline %d", v, restored)
			}
			if copied, _ := s.Due("c", 10); copied != due {
				t.Errorf("%.40v: deadline %d, not %d", v, copied, due)
			}
			if again := mustRun(t, s, 10, "dump", "r"); again.Text != told.Text {
				t.Errorf("%.40v: %q, not %q", v, again.Text, told.Text)
			}
		}
	}
}

// P18.10: RENAME there and back changes no value and no deadline.
func TestRenameBack(t *testing.T) {
	for _, key := range []string{"a", "soon", "late", "e", "list", "hash", "set", "zset", "led", "seta"} {
		for _, way := range []string{"rename", "renamenx"} {
			for _, other := range []string{"q", "", "over", "lost"} {
				s := begin()
				v, _ := s.Get(key, 10)
				due, _ := s.Due(key, 10)
				mustRun(t, s, 10, way, key, other)
				if r := mustRun(t, s, 10, "exists", key); r.N != 0 {
					t.Errorf("%s %s: it is there still", way, key)
				}
				mustRun(t, s, 10, way, other, key)
				got, there := s.Get(key, 10)
				also, _ := s.Due(key, 10)
				if !there || !value.Same(got, v) || also != due {
					t.Errorf("%s %s %s: %v, %d", way, key, other, got, also)
				}
			}
		}
	}
}
