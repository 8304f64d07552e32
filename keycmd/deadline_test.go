package keycmd

import (
	"fmt"
	"testing"

	"covenant/api"
	"covenant/resp"
	"covenant/space"
)

// P18.4: each of the four has a deadline of its own.
func TestExpire(t *testing.T) {
	check(t, 10, []row{
		{"expire a 2", "(integer) 1", "due a 2010"},
		{"pexpire a 2", "(integer) 1", "due a 12"},
		{"expireat a 2", "(integer) 1", "due a 2000"},
		{"pexpireat a 20", "(integer) 1", "due a 20"},
		{"EXPIRE late 2", "(integer) 1", "due late 2010"},
		{"PExpire late 2", "(integer) 1", "due late 12"},
		{"expireAT late 1", "(integer) 1", "due late 1000"},
		{"pexpireat late 11", "(integer) 1", "due late 11"},
		{"expire list 1", "(integer) 1", "due list 1010"},
		{"expire hash 1", "(integer) 1", "due hash 1010"},
		{"expire set 1", "(integer) 1", "due set 1010"},
		{"expire zset 1", "(integer) 1", "due zset 1010"},
		{"expire led 1", "(integer) 1", "due led 1010"},
		{"expire e 1", "(integer) 1", "due e 1010"},
		{"expire q 1", "(integer) 0", ""},
		{"pexpire q -1", "(integer) 0", ""},
		{"expire '' 1", "(integer) 0", ""},
		{"expire over 1", "(integer) 0", ""},
		{"pexpire over -1", "(integer) 0", ""},
		{"expireat past 1", "(integer) 0", ""},
		{"pexpireat lost 100", "(integer) 0", ""},
	})
}

// P18.4: a deadline at now or below it drops the key.
func TestExpireDrops(t *testing.T) {
	check(t, 10, []row{
		{"pexpireat a 11", "(integer) 1", "due a 11"},
		{"pexpireat a 10", "(integer) 1", "drop a"},
		{"pexpireat a 9", "(integer) 1", "drop a"},
		{"pexpireat a 0", "(integer) 1", "drop a"},
		{"pexpireat a -1", "(integer) 1", "drop a"},
		{"pexpireat late 10", "(integer) 1", "drop late"},
		{"expireat a 0", "(integer) 1", "drop a"},
		{"expireat a -5", "(integer) 1", "drop a"},
		{"expire a 0", "(integer) 1", "drop a"},
		{"expire a -1", "(integer) 1", "drop a"},
		{"pexpire a 0", "(integer) 1", "drop a"},
		{"pexpire a -1", "(integer) 1", "drop a"},
		{"pexpire a -10", "(integer) 1", "drop a"},
		{"pexpire a -11", "(integer) 1", "drop a"},
		{"pexpire led -9", "(integer) 1", "drop led"},
		{"pexpire a 1", "(integer) 1", "due a 11"},
	})
	least := "-9223372036854775808"
	for _, name := range []string{"expire", "pexpire", "expireat", "pexpireat"} {
		for _, n := range []string{least, "-9223372036854775807", "-9223372036854776", "-9223372036854775", "-9007199254740993", "-9007199254740992", "-9007199254741", "-9007199254740"} {
			check(t, 10, []row{
				{name + " a " + n, "(integer) 1", "drop a"},
				{name + " a " + n + " lt", "(integer) 1", "drop a"},
				{name + " late " + n + " xx LT", "(integer) 1", "drop late"},
				{name + " late " + n + " gt", "(integer) 0", ""},
				{name + " late " + n + " nx", "(integer) 0", ""},
				{name + " q " + n, "(integer) 0", ""},
			})
		}
	}
	check(t, 1000, []row{{"expireat a 1", "(integer) 1", "drop a"}, {"expireat a 2", "(integer) 1", "due a 2000"}})
	check(t, 999, []row{{"expireat a 1", "(integer) 1", "due a 1000"}})
}

// P18.4: a deadline is at most MaxTick; the product and the sum may be greater than any int.
func TestExpireBound(t *testing.T) {
	check(t, 0, []row{
		{"expire a 9007199254740", "(integer) 1", "due a 9007199254740000"},
		{"expireat a 9007199254740", "(integer) 1", "due a 9007199254740000"},
		{"pexpire a 9007199254740992", "(integer) 1", "due a 9007199254740992"},
		{"pexpireat a 9007199254740992", "(integer) 1", "due a 9007199254740992"},
	})
	check(t, 992, []row{{"expire a 9007199254740", "(integer) 1", "due a 9007199254740992"}})
	check(t, 993, []row{
		{"expire a 9007199254740", "(error) " + api.TextDeadline, ""},
		{"expire a 9007199254739", "(integer) 1", "due a 9007199254739993"},
		{"expireat a 9007199254740", "(integer) 1", "due a 9007199254740000"},
		{"pexpire a 9007199254739999", "(integer) 1", "due a 9007199254740992"},
		{"pexpire a 9007199254740000", "(error) " + api.TextDeadline, ""},
		{"pexpireat a 9007199254740992", "(integer) 1", "due a 9007199254740992"},
	})
	fails(t, 10, api.TextDeadline,
		"expire a 9007199254741", "expireat a 9007199254741", "pexpire a 9007199254740983", "pexpireat a 9007199254740993",
		"expire a 9223372036854775", "expire a 9223372036854776", "expire a 18446744073709551", "expire a 18446744073709552", "expireat a 9223372036854776",
		"expire a 9223372036854775807", "pexpire a 9223372036854775807", "expireat a 9223372036854775807", "pexpireat a 9223372036854775807",
		"expire q 9007199254741", "pexpireat over 9007199254740993", "expire late 9007199254741 nx", "expire late 9007199254741 foo", "expire late 9007199254741 gt lt",
	)
	// A key's own deadline may be the last tick.
	s := space.New()
	s.Put("k", aText("x"), top)
	for line, want := range map[string]string{"pexpireat k 9007199254740992 gt": "(integer) 0", "pexpireat k 9007199254740992 lt": "(integer) 0", "pexpireat k 9007199254740992 xx": "(integer) 1", "pexpireat k 9007199254740991 gt": "(integer) 0"} {
		if r := mustRun(t, s, 10, words(line)...); resp.Show(r) != want {
			t.Errorf("%s: %s", line, resp.Show(r))
		}
	}
}

// P18.4: a word that is no number's text is TextNumber.
func TestExpireNumber(t *testing.T) {
	for _, name := range []string{"expire", "pexpire", "expireat", "pexpireat"} {
		for _, n := range []string{"x", "''", "+1", "01", "-0", "1.5", "1s", "0x1", "9223372036854775808", "-9223372036854775809", "nx", "1\n"} {
			fails(t, 10, api.TextNumber, name+" a "+n, name+" q "+n, name+" late "+n+" nx", name+" a "+n+" foo")
		}
	}
}

// P18.4: each option alone, at a key without a deadline, and at one with the deadline 1000.
func TestExpireOptions(t *testing.T) {
	check(t, 10, []row{
		{"pexpireat a 20 nx", "(integer) 1", "due a 20"},
		{"pexpireat late 20 nx", "(integer) 0", ""},
		{"pexpireat late 2000 NX", "(integer) 0", ""},
		{"pexpireat a 20 xx", "(integer) 0", ""},
		{"pexpireat late 20 xx", "(integer) 1", "due late 20"},
		{"pexpireat late 2000 Xx", "(integer) 1", "due late 2000"},
		{"pexpireat late 1000 xx", "(integer) 1", "due late 1000"},
		{"pexpireat a 20 gt", "(integer) 0", ""},
		{"pexpireat late 999 gt", "(integer) 0", ""},
		{"pexpireat late 1000 gt", "(integer) 0", ""},
		{"pexpireat late 1001 GT", "(integer) 1", "due late 1001"},
		{"pexpireat a 20 lt", "(integer) 1", "due a 20"},
		{"pexpireat late 999 lt", "(integer) 1", "due late 999"},
		{"pexpireat late 1000 lt", "(integer) 0", ""},
		{"pexpireat late 1001 lT", "(integer) 0", ""},
		{"pexpireat late 1000", "(integer) 1", "due late 1000"},
		// A deadline that is there already is dropped by one that has come, where the option lets it.
		{"pexpireat late 10 xx", "(integer) 1", "drop late"},
		{"pexpireat late 10 lt", "(integer) 1", "drop late"},
		{"pexpireat late 10 gt", "(integer) 0", ""},
		{"pexpireat a 10 nx", "(integer) 1", "drop a"},
		{"pexpireat a 10 lt", "(integer) 1", "drop a"},
		{"pexpireat a 10 xx", "(integer) 0", ""},
		{"pexpireat a 10 gt", "(integer) 0", ""},
		{"pexpireat soon 11 lt", "(integer) 0", ""},
		{"pexpireat soon 12 gt", "(integer) 1", "due soon 12"},
		// A key that is not there, or over, has no deadline to be changed.
		{"pexpireat q 20 nx", "(integer) 0", ""},
		{"pexpireat q 20 lt", "(integer) 0", ""},
		{"pexpireat over 20 xx", "(integer) 0", ""},
		{"pexpireat over 20 nx", "(integer) 0", ""},
	})
	// The tick 1 is a deadline like any other.
	check(t, 0, []row{
		{"pexpireat past 5 nx", "(integer) 0", ""},
		{"pexpireat past 5 xx", "(integer) 1", "due past 5"},
		{"pexpireat past 5 gt", "(integer) 1", "due past 5"},
		{"pexpireat past 1 lt", "(integer) 0", ""},
		{"pexpireat past 0 lt", "(integer) 1", "drop past"},
		{"persist past", "(integer) 1", "due past 0"},
	})
}

// P18.4: what two options let stand there, in both orders; twice the same counts as once.
func TestExpireTwoOptions(t *testing.T) {
	both := map[string][]row{
		"xx gt": {{"a 20", "(integer) 0", ""}, {"late 1000", "(integer) 0", ""}, {"late 1001", "(integer) 1", "due late 1001"}, {"late 5", "(integer) 0", ""}},
		"xx lt": {{"a 20", "(integer) 0", ""}, {"late 1000", "(integer) 0", ""}, {"late 999", "(integer) 1", "due late 999"}, {"late 5", "(integer) 1", "drop late"}},
		"nx nx": {{"a 20", "(integer) 1", "due a 20"}, {"late 20", "(integer) 0", ""}},
		"xx XX": {{"a 20", "(integer) 0", ""}, {"late 20", "(integer) 1", "due late 20"}},
		"gt GT": {{"a 20", "(integer) 0", ""}, {"late 1001", "(integer) 1", "due late 1001"}, {"late 1000", "(integer) 0", ""}},
		"LT lt": {{"a 20", "(integer) 1", "due a 20"}, {"late 999", "(integer) 1", "due late 999"}, {"late 1000", "(integer) 0", ""}},
	}
	for options, rows := range both {
		two := words(options)
		for _, x := range rows {
			for _, behind := range []string{two[0] + " " + two[1], two[1] + " " + two[0], two[0] + " " + two[1] + " " + two[0] + " " + two[1]} {
				check(t, 10, []row{{"pexpireat " + x.line + " " + behind, x.reply, x.changes}})
			}
		}
	}
	for _, two := range []string{"nx xx", "xx nx", "nx gt", "gt nx", "NX lt", "lt Nx", "gt lt", "LT GT", "xx gt lt", "gt xx nx", "nx nx gt", "gt gt lt", "lt xx gt"} {
		for _, name := range []string{"expire", "pexpire", "expireat", "pexpireat"} {
			fails(t, 10, api.TextSyntax, name+" a 20 "+two, name+" late 20 "+two, name+" q 20 "+two)
		}
	}
	for _, other := range []string{"foo", "''", "n", "nxx", "nx foo", "foo nx", "replace", "absttl", "match", "20", "x x", "px", "nx\x00"} {
		fails(t, 10, api.TextSyntax, "expire a 20 "+other, "pexpire q 20 "+other, "pexpireat late 20 "+other, "expireat over 20 "+other)
	}
}

// P18.4: PERSIST takes a deadline away, once.
func TestPersist(t *testing.T) {
	check(t, 10, []row{
		{"persist late", "(integer) 1", "due late 0"},
		{"persist soon", "(integer) 1", "due soon 0"},
		{"PERSIST led", "(integer) 1", "due led 0"},
		{"persist seta", "(integer) 1", "due seta 0"},
		{"persist a", "(integer) 0", ""},
		{"persist list", "(integer) 0", ""},
		{"persist q", "(integer) 0", ""},
		{"persist ''", "(integer) 0", ""},
		{"persist over", "(integer) 0", ""},
		{"persist past", "(integer) 0", ""},
		{"persist zed", "(integer) 0", ""},
	})
	s := begin()
	mustRun(t, s, 10, "persist", "late")
	if r := mustRun(t, s, 10, "persist", "late"); r.N != 0 {
		t.Errorf("persist again: %s", resp.Show(r))
	}
	if r := mustRun(t, s, 5000, "ttl", "late"); r.N != -1 {
		t.Errorf("ttl: %s", resp.Show(r))
	}
}

// P18.5: the four that tell a deadline, of keys with one, without one, and of those that are not there.
func TestTell(t *testing.T) {
	for _, name := range []string{"ttl ", "PTTL ", "expiretime ", "PexpireTime "} {
		check(t, 10, []row{
			{name + "a", "(integer) -1", ""}, {name + "e", "(integer) -1", ""}, {name + "list", "(integer) -1", ""}, {name + "zset", "(integer) -1", ""},
			{name + "q", "(integer) -2", ""}, {name + "''", "(integer) -2", ""}, {name + "over", "(integer) -2", ""}, {name + "past", "(integer) -2", ""}, {name + "lost", "(integer) -2", ""}, {name + "zed", "(integer) -2", ""},
		})
	}
	check(t, 10, []row{
		{"ttl soon", "(integer) 1", ""}, {"pttl soon", "(integer) 1", ""}, {"expiretime soon", "(integer) 1", ""}, {"pexpiretime soon", "(integer) 11", ""},
		{"ttl late", "(integer) 1", ""}, {"pttl late", "(integer) 990", ""}, {"expiretime late", "(integer) 1", ""}, {"pexpiretime late", "(integer) 1000", ""},
		{"ttl led", "(integer) 1", ""}, {"pttl led", "(integer) 690", ""}, {"expiretime led", "(integer) 1", ""}, {"pexpiretime led", "(integer) 700", ""},
	})
}

// P18.5: seconds are rounded up.
func TestTellSeconds(t *testing.T) {
	for due, seconds := range map[int]int{1: 1, 2: 1, 999: 1, 1000: 1, 1001: 2, 1999: 2, 2000: 2, 2001: 3, 60000: 60, 60001: 61, top - 1: 9007199254741, top: 9007199254741, 9007199254740000: 9007199254740, 9007199254740001: 9007199254741} {
		for _, now := range []int{-1, 0, 1, 7, 999, 1000, 1001} {
			from := max(now, 0)
			if due > top-from {
				continue
			}
			s := space.New()
			s.Put("k", aText("x"), due+from)
			want := map[string]int{"ttl": seconds, "pttl": due, "pexpiretime": due + from, "expiretime": (due + from + 999) / 1000}
			for name, n := range want {
				if r := mustRun(t, s, now, name, "k"); r.Kind != api.ReplyInt || r.N != n {
					t.Errorf("%s at %d of %d: %s, not %d", name, now, due+from, resp.Show(r), n)
				}
			}
		}
	}
}

// P18.4, P18.5: what EXPIRE and its likes set is what is told.
func TestSetAndTold(t *testing.T) {
	for _, now := range []int{-5, 0, 1, 10, 999, 123456} {
		for _, n := range []int{1, 2, 60, 5000000} {
			for name, tells := range map[string]string{"expire": "ttl", "pexpire": "pttl"} {
				s := space.New()
				s.Put("k", aText("x"), 0)
				mustRun(t, s, now, name, "k", fmt.Sprint(n))
				if r := mustRun(t, s, now, tells, "k"); r.N != n {
					t.Errorf("%s %d at %d: %s", name, n, now, resp.Show(r))
				}
			}
			for name, tells := range map[string]string{"expireat": "expiretime", "pexpireat": "pexpiretime"} {
				s := space.New()
				s.Put("k", aText("x"), 0)
				at := n + 123457
				mustRun(t, s, now, name, "k", fmt.Sprint(at))
				if r := mustRun(t, s, now, tells, "k"); r.N != at {
					t.Errorf("%s %d at %d: %s", name, at, now, resp.Show(r))
				}
			}
		}
	}
}
