package strcmd

import (
	"strings"
	"testing"

	"covenant/api"
	"covenant/resp"
	"covenant/space"
)

// P17.6: APPEND lays its text behind what is there, and keeps the deadline.
func TestAppend(t *testing.T) {
	check(t, 10, []row{
		{"append s x", "(integer) 6", `put s "hellox" 0`},
		{"append s ''", "(integer) 5", `put s "hello" 0`},
		{"append late there", "(integer) 7", `put late "hithere" 1000`},
		{"append soon x", "(integer) 6", `put soon "worldx" 11`},
		{"append over x", "(integer) 1", `put over "x" 0`},
		{"append lost x", "(integer) 1", `put lost "x" 0`},
		{"append e x", "(integer) 1", `put e "x" 0`},
		{"append q x", "(integer) 1", `put q "x" 0`},
		{"append q ''", "(integer) 0", `put q "" 0`},
		{"append ones \x00", "(integer) 3", `put ones "\xff\xff\x00" 0`},
	})
	fails(t, 10, api.TextWrong, "append list x", "append hash x", "append sets x", "append rank ''", "append led x")
}

// P17.6: SETRANGE lays its text over what is there, and keeps the deadline; an empty one changes nothing.
func TestOverlay(t *testing.T) {
	check(t, 10, []row{
		{"setrange s 1 EY", "(integer) 5", `put s "hEYlo" 0`},
		{"setrange s 0 J", "(integer) 5", `put s "Jello" 0`},
		{"setrange s 5 x", "(integer) 6", `put s "hellox" 0`},
		{"setrange s 7 x", "(integer) 8", `put s "hello\x00\x00x" 0`},
		{"setrange s 0 h", "(integer) 5", `put s "hello" 0`},
		{"setrange late 1 xyz", "(integer) 4", `put late "hxyz" 1000`},
		{"setrange over 1 x", "(integer) 2", `put over "\x00x" 0`},
		{"setrange lost 0 x", "(integer) 1", `put lost "x" 0`},
		{"setrange e 0 x", "(integer) 1", `put e "x" 0`},
		{"setrange q 2 x", "(integer) 3", `put q "\x00\x00x" 0`},
		{"setrange s 1 ''", "(integer) 5", ""},
		{"setrange s 99 ''", "(integer) 5", ""},
		{"setrange s 9223372036854775807 ''", "(integer) 5", ""},
		{"setrange late 0 ''", "(integer) 2", ""},
		{"setrange q 5 ''", "(integer) 0", ""},
		{"setrange over 0 ''", "(integer) 0", ""},
		{"setrange e 0 ''", "(integer) 0", ""},
	})
	fails(t, 10, api.TextNumber, "setrange s x y", "setrange s '' y", "setrange s 01 y", "setrange q x ''", "setrange list x y", "setrange s 9223372036854775808 y")
	fails(t, 10, api.TextOffset, "setrange s -1 x", "setrange s -1 ''", "setrange q -1 x", "setrange list -1 x", "setrange s -9223372036854775808 x")
	fails(t, 10, api.TextWrong, "setrange list 0 x", "setrange list 0 ''", "setrange hash 0 x", "setrange sets 9223372036854775807 x", "setrange rank 0 x", "setrange led 0 x")
	fails(t, 10, api.TextLong, "setrange s 1048576 x", "setrange q 1048576 x", "setrange q 1048575 xy", "setrange s 9223372036854775807 x", "setrange q 9223372036854775807 xyz")
}

// long is a text of so many bytes less than MaxText.
func long(less int) string {
	return strings.Repeat("x", api.MaxText-less)
}

// limit is a request about MaxText, the length of the string that is there ahead (none below 0), the reply, and the length behind.
type limit struct {
	args  []string
	ahead int
	reply string
	then  int
}

// P17.6, P17.10: a text of MaxText is put, one that is longer never: TextLong, and nothing is changed.
func TestLong(t *testing.T) {
	tooLong, whole := "(error) "+api.TextLong, "(integer) 1048576"
	for _, x := range []limit{
		{[]string{"append", "k", "x"}, api.MaxText - 1, whole, api.MaxText},
		{[]string{"append", "k", ""}, api.MaxText, whole, api.MaxText},
		{[]string{"append", "k", "x"}, api.MaxText, tooLong, api.MaxText},
		{[]string{"append", "k", "xy"}, api.MaxText - 1, tooLong, api.MaxText - 1},
		{[]string{"append", "k", long(0)}, -1, whole, api.MaxText},
		{[]string{"append", "k", long(0)}, 0, whole, api.MaxText},
		{[]string{"append", "k", long(0)}, 1, tooLong, 1},
		{[]string{"append", "k", long(-1)}, -1, tooLong, -1},
		{[]string{"append", "k", long(-1)}, 0, tooLong, 0},
		{[]string{"setrange", "k", "1048575", "x"}, 3, whole, api.MaxText},
		{[]string{"setrange", "k", "1048575", "xy"}, 3, tooLong, 3},
		{[]string{"setrange", "k", "1048576", "x"}, api.MaxText, tooLong, api.MaxText},
		{[]string{"setrange", "k", "1048576", ""}, 3, "(integer) 3", 3},
		{[]string{"setrange", "k", "0", long(0)}, -1, whole, api.MaxText},
		{[]string{"setrange", "k", "1", long(0)}, -1, tooLong, -1},
		{[]string{"setrange", "k", "0", long(-1)}, 3, tooLong, 3},
		{[]string{"set", "k", long(0)}, 3, "OK", api.MaxText},
		{[]string{"set", "k", long(-1)}, 3, tooLong, 3},
		{[]string{"set", "k", long(-1)}, -1, tooLong, -1},
		{[]string{"set", "k", long(-1), "keepttl"}, 3, tooLong, 3},
		{[]string{"set", "k", long(-1), "px", "5"}, 3, tooLong, 3},
		{[]string{"set", "k", long(-1), "get"}, 3, tooLong, 3},
		{[]string{"set", "k", long(-1), "nx"}, 3, "(nil)", 3},
		{[]string{"set", "k", long(-1), "xx"}, -1, "(nil)", -1},
		{[]string{"set", "k", long(-1), "nx"}, -1, tooLong, -1},
		{[]string{"set", "k", long(-1), "get", "nx"}, 3, `"xxx"`, 3},
		{[]string{"set", "k", long(-1), "foo"}, 3, "(error) " + api.TextSyntax, 3},
		{[]string{"getset", "k", long(-1)}, 3, tooLong, 3},
		{[]string{"getset", "k", long(-1)}, -1, tooLong, -1},
		{[]string{"getset", "k", long(0)}, 3, `"xxx"`, api.MaxText},
		{[]string{"setnx", "k", long(-1)}, -1, tooLong, -1},
		{[]string{"setnx", "k", long(-1)}, 3, "(integer) 0", 3},
		{[]string{"setnx", "k", long(0)}, -1, "(integer) 1", api.MaxText},
		{[]string{"setex", "k", "5", long(-1)}, 3, tooLong, 3},
		{[]string{"setex", "k", "0", long(-1)}, 3, "(error) " + api.TextDeadline, 3},
		{[]string{"setex", "k", "5", long(0)}, 3, "OK", api.MaxText},
		{[]string{"psetex", "k", "5", long(-1)}, 3, tooLong, 3},
		{[]string{"psetex", "k", "x", long(-1)}, 3, "(error) " + api.TextNumber, 3},
		{[]string{"mset", "k", long(0)}, 3, "OK", api.MaxText},
		{[]string{"mset", "k", long(-1)}, 3, tooLong, 3},
		{[]string{"mset", "k", "y", "r", long(-1)}, 3, tooLong, 3},
		{[]string{"mset", "r", long(-1), "k", "y"}, 3, tooLong, 3},
		{[]string{"mset", "k", "y", "k", long(-1)}, 3, tooLong, 3},
		{[]string{"mset", "k", long(-1), "r"}, 3, "(error) " + api.TextArity + "mset", 3},
		{[]string{"msetnx", "k", "y", "r", long(-1)}, -1, tooLong, -1},
		{[]string{"msetnx", "r", long(-1), "k", "y"}, 3, "(integer) 0", 3},
		{[]string{"msetnx", "k", long(0)}, -1, "(integer) 1", api.MaxText},
		{[]string{"setbit", "k", "8388607", "1"}, 3, "(integer) 0", api.MaxText},
		{[]string{"setbit", "k", "8388607", "0"}, -1, "(integer) 0", api.MaxText},
		{[]string{"setbit", "k", "8388600", "1"}, api.MaxText, "(integer) 0", api.MaxText},
		{[]string{"setbit", "k", "8388608", "1"}, 3, "(error) " + api.TextOffset, 3},
		{[]string{"bitop", "or", "d", "k", "k"}, api.MaxText, whole, api.MaxText},
		{[]string{"bitop", "not", "k", "k"}, api.MaxText, whole, api.MaxText},
		{[]string{"strlen", "k"}, api.MaxText, whole, api.MaxText},
		{[]string{"bitpos", "k", "0", "1048575"}, api.MaxText, "(integer) 8388600", api.MaxText},
	} {
		checkLimit(t, x)
	}
}

func checkLimit(t *testing.T, x limit) {
	t.Helper()
	s := space.New()
	if x.ahead >= 0 {
		s.Put("k", aText(strings.Repeat("x", x.ahead)), 0)
	}
	was := s.Counter()
	r, ok := Run(s, 10, x.args)
	v, there := s.Get("k", 10)
	then := len(v.Text)
	if !there {
		then = -1
	}
	name := strings.Join(x.args, " ")
	name = name[:min(len(name), 40)]
	if !ok || resp.Show(r) != x.reply || then != x.then {
		t.Errorf("%s of %d bytes: %.60s, %v, %d bytes", name, x.ahead, resp.Show(r), ok, then)
	}
	if _, there := s.Get("r", 10); there || r.Kind == api.ReplyError && s.Counter() != was {
		t.Errorf("%s of %d bytes: something was changed", name, x.ahead)
	}
}

// P17.6: what is longer than MaxText behind an append is told so behind the kind.
func TestLongBehindKind(t *testing.T) {
	for _, args := range [][]string{{"append", "list", long(-1)}, {"setrange", "list", "0", long(-1)}, {"getset", "list", long(-1)}, {"set", "list", long(-1), "get"}} {
		s := begin()
		was := told(s)
		if r, ok := Run(s, 10, args); !ok || r.Kind != api.ReplyError || r.Text != api.TextWrong || told(s) != was {
			t.Errorf("%s: %.60s, %v", args[0], resp.Show(r), ok)
		}
	}
}

// P17.7: the counters add to the number that is there, 0 of an absent key, and keep the deadline.
func TestCounters(t *testing.T) {
	check(t, 10, []row{
		{"incr q", "(integer) 1", `put q "1" 0`},
		{"decr q", "(integer) -1", `put q "-1" 0`},
		{"incrby q 5", "(integer) 5", `put q "5" 0`},
		{"decrby q 5", "(integer) -5", `put q "-5" 0`},
		{"incrby q 0", "(integer) 0", `put q "0" 0`},
		{"decrby q 0", "(integer) 0", `put q "0" 0`},
		{"incr n", "(integer) 11", `put n "11" 0`},
		{"decr n", "(integer) 9", `put n "9" 0`},
		{"incrby n -10", "(integer) 0", `put n "0" 0`},
		{"decrby n 11", "(integer) -1", `put n "-1" 0`},
		{"incrby n 0", "(integer) 10", `put n "10" 0`},
		{"incr m", "(integer) -6", `put m "-6" 500`},
		{"decr m", "(integer) -8", `put m "-8" 500`},
		{"incrby m 8", "(integer) 1", `put m "1" 500`},
		{"decrby m -7", "(integer) 0", `put m "0" 500`},
		{"incr past", "(integer) 1", `put past "1" 0`},
		{"decrby over 3", "(integer) -3", `put over "-3" 0`},
		{"incr lost", "(integer) 1", `put lost "1" 0`},
		{"incrby q 9223372036854775807", "(integer) 9223372036854775807", `put q "9223372036854775807" 0`},
		{"incrby q -9223372036854775808", "(integer) -9223372036854775808", `put q "-9223372036854775808" 0`},
		{"decrby q 9223372036854775807", "(integer) -9223372036854775807", `put q "-9223372036854775807" 0`},
		{"decrby q -9223372036854775807", "(integer) 9223372036854775807", `put q "9223372036854775807" 0`},
	})
	fails(t, 10, api.TextNumber, "incr s", "decr s", "incrby s 1", "decrby s 1", "incr e", "decr e", "incrby e 0", "decrby e 0", "incr late", "incr ones",
		"incrby n x", "decrby n x", "incrby n ''", "decrby n ''", "incrby n 01", "decrby n +1", "incrby n -0", "decrby n 1.0",
		"incrby n 9223372036854775808", "decrby n 9223372036854775808", "incrby n -9223372036854775809", "decrby n -9223372036854775809", "incrby q x", "decrby list x", "incrby list x")
	fails(t, 10, api.TextWrong, "incr list", "decr list", "incrby list 1", "decrby list 1", "incr hash", "decr sets", "incrby rank 1", "decrby led 1")
	fails(t, 10, api.TextOverflow, "incrby n 9223372036854775807", "decrby m 9223372036854775807", "incrby m -9223372036854775808", "decrby n -9223372036854775807")
}

// P17.7: DECRBY of the least int is TextOverflow, whatever the key holds: it is the argument that is at fault.
func TestDecreaseByTheLeast(t *testing.T) {
	fails(t, 10, api.TextOverflow, "decrby q -9223372036854775808", "decrby n -9223372036854775808", "decrby m -9223372036854775808", "decrby s -9223372036854775808", "decrby list -9223372036854775808", "decrby over -9223372036854775808")
}

// P17.7: sums at the ends of the ints, and texts that look like numbers and are none.
func TestCountersAtTheEnds(t *testing.T) {
	tooFar, none := "(error) "+api.TextOverflow, "(error) "+api.TextNumber
	for _, x := range []struct{ text, line, reply, then string }{
		{"9223372036854775806", "incr k", "(integer) 9223372036854775807", "9223372036854775807"},
		{"9223372036854775807", "incr k", tooFar, "9223372036854775807"},
		{"9223372036854775807", "decr k", "(integer) 9223372036854775806", "9223372036854775806"},
		{"9223372036854775807", "incrby k 0", "(integer) 9223372036854775807", "9223372036854775807"},
		{"9223372036854775807", "incrby k -9223372036854775808", "(integer) -1", "-1"},
		{"9223372036854775807", "decrby k -1", tooFar, "9223372036854775807"},
		{"9223372036854775807", "decrby k 9223372036854775807", "(integer) 0", "0"},
		{"-9223372036854775808", "decr k", tooFar, "-9223372036854775808"},
		{"-9223372036854775808", "incr k", "(integer) -9223372036854775807", "-9223372036854775807"},
		{"-9223372036854775807", "decr k", "(integer) -9223372036854775808", "-9223372036854775808"},
		{"-9223372036854775808", "incrby k 9223372036854775807", "(integer) -1", "-1"},
		{"-9223372036854775808", "decrby k 1", tooFar, "-9223372036854775808"},
		{"-9223372036854775808", "incrby k -1", tooFar, "-9223372036854775808"},
		{"-1", "decrby k 9223372036854775807", "(integer) -9223372036854775808", "-9223372036854775808"},
		{"-2", "decrby k 9223372036854775807", tooFar, "-2"},
		{"-1", "decrby k -9223372036854775808", tooFar, "-1"},
		{"1", "incrby k 9223372036854775807", tooFar, "1"},
		{"9223372036854775808", "decr k", none, "9223372036854775808"},
		{"-9223372036854775809", "incr k", none, "-9223372036854775809"},
		{"01", "incr k", none, "01"}, {"+1", "incr k", none, "+1"}, {"-0", "incr k", none, "-0"}, {" 1", "incr k", none, " 1"},
		{"1 ", "decr k", none, "1 "}, {"1.0", "incrby k 1", none, "1.0"}, {"0x1", "decrby k 1", none, "0x1"}, {"1_0", "incr k", none, "1_0"},
	} {
		s := space.New()
		s.Put("k", aText(x.text), 0)
		r, ok := Run(s, 10, words(x.line))
		v, _ := s.Get("k", 10)
		if changed := s.Counter() != 1; !ok || resp.Show(r) != x.reply || v.Text != x.then || changed == (r.Kind == api.ReplyError) {
			t.Errorf("%s of %q: %s, %q, %d touches", x.line, x.text, resp.Show(r), v.Text, s.Counter())
		}
	}
}
