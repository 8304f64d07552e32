package strcmd

import (
	"math"
	"math/rand"
	"strings"
	"testing"

	"covenant/api"
	"covenant/space"
)

// few is a space of a few keys: strings with and without a deadline, one that is over from tick 10 on, another kind.
func few() []api.Entry {
	s := space.New()
	s.Put("a", aText("7"), 0)
	s.Put("b", aText("\xff\xff"), 20)
	s.Put("c", aText(""), 11)
	s.Put("o", aText("old"), 10)
	s.Put("l", others()["list"], 0)
	return s.Entries()
}

// fewKeys is these keys, and one that is absent.
func fewKeys() []string { return []string{"a", "b", "c", "o", "l", "q"} }

// trial is a space that is laid anew only when a request changed it, so that many requests cost little.
type trial struct {
	s       *space.Space
	entries []api.Entry
}

func (x *trial) space() *space.Space {
	if x.s == nil || x.s.Counter() != uint64(len(x.entries)) {
		x.s = space.New()
		x.s.Load(x.entries)
	}
	return x.s
}

// every asks all requests that have at each place one of the words for it, of the fewest words or more, and tells how many that were.
func every(t *testing.T, now int, least int, places ...[]string) int {
	t.Helper()
	x := &trial{entries: few()}
	asked := 0
	var walk func(args []string, rest [][]string) bool
	walk = func(args []string, rest [][]string) bool {
		if len(args) >= least {
			asked++
			if !alike(t, x.space(), now, args) {
				x.s = nil
				return false
			}
		}
		if len(rest) == 0 {
			return true
		}
		for _, word := range rest[0] {
			if !walk(append(args[:len(args):len(args)], word), rest[1:]) {
				return false
			}
		}
		return true
	}
	walk(nil, places)
	return asked
}

func someNumbers() []string {
	return []string{
		"-9223372036854775809", "-9223372036854775808", "-9007199254740993", "-17", "-3", "-2", "-1", "-0", "0", "00", "1", "01", "+1", "2", "3", "7", "8", "15", "16", "17", "1000",
		"1048576", "8388608", "9007199254739", "9007199254740", "9007199254741", "9007199254740991", "9007199254740992", "9007199254740993", "9223372036854775807", "9223372036854775808", "", "x", " 1", "1 ", "0x1",
	}
}

// nearNumbers is numbers about the length of the few strings, in bits too, and those that lie outside of every string.
func nearNumbers() []string {
	return []string{"-9223372036854775808", "-8", "-1", "-0", "0", "1", "7", "8", "9", "15", "16", "17", "23", "24", "64", "8388608", "9223372036854775807", "9223372036854775808", "01", "x", ""}
}

// moments is nows about the deadlines of the few keys, and beyond the ticks.
func moments() []int {
	return []int{math.MinInt, -1, 0, 9, 10, 11, 19, 20, 21, top - 1000, top - 1, top, top + 1, math.MaxInt}
}

// P17.2 to P17.9: each command with each of many words at each of its places, at each moment.
func TestEveryCommand(t *testing.T) {
	keys, some, texts := fewKeys(), someNumbers(), []string{"", "x", "12", "\x00\xff"}
	asked := 0
	for _, now := range moments() {
		for _, name := range []string{"get", "STRLEN", "getdel", "incr", "Decr", "getex", "bitcount"} {
			asked += every(t, now, 2, []string{name}, keys)
		}
		for _, name := range []string{"getset", "setnx", "append", "set"} {
			asked += every(t, now, 3, []string{name}, keys, texts)
		}
		for _, name := range []string{"incrby", "DECRBY", "getbit"} {
			asked += every(t, now, 3, []string{name}, keys, some)
		}
		for _, name := range []string{"setex", "PSETEX"} {
			asked += every(t, now, 4, []string{name}, keys, some, texts)
		}
		asked += every(t, now, 3, []string{"getex"}, keys, []string{"ex", "PX", "exat", "pxat", "persist", "x"}, some)
	}
	for _, now := range []int{0, 10, 15} {
		asked += every(t, now, 4, []string{"getrange"}, keys, some, some)
		asked += every(t, now, 2, []string{"bitcount"}, keys, some, some)
		asked += every(t, now, 4, []string{"setbit"}, keys, nearNumbers(), []string{"0", "1", "2", "-1", "x", "", "01"})
		asked += every(t, now, 3, []string{"bitpos"}, keys, []string{"0", "1", "2", "x"}, some, some)
		asked += every(t, now, 4, []string{"setrange"}, keys, []string{"-1", "0", "1", "3", "1048576", "9223372036854775807", "x"}, texts)
	}
	if asked < 50000 {
		t.Errorf("only %d were asked", asked)
	}
}

// P17.2, P17.5, P17.9: the commands on several keys with every few of them, each as often as may be.
func TestEveryFewKeys(t *testing.T) {
	keys := fewKeys()
	asked := 0
	for _, now := range []int{-1, 9, 10, 15, 20} {
		asked += every(t, now, 2, []string{"mget"}, keys, keys, keys)
		for _, name := range []string{"mset", "msetnx"} {
			asked += every(t, now, 3, []string{name}, keys, []string{"", "x"}, keys, []string{"1"}, []string{"q", "r", "l"}, []string{"2"})
		}
		asked += every(t, now, 4, []string{"bitop"}, []string{"and", "OR", "xOr", "not", "nor", ""}, []string{"b", "o", "l", "q"}, keys, keys, []string{"a", "b", "l", "q"})
	}
	if asked < 10000 {
		t.Errorf("only %d were asked", asked)
	}
}

// P17.3, P17.4: SET and GETEX with every few words behind.
func TestEveryOption(t *testing.T) {
	behind := []string{"nx", "XX", "get", "ex", "px", "PxAt", "exat", "keepttl", "KEEPTTL", "persist", "0", "5", "x", "", "9223372036854775807"}
	asked := 0
	for _, now := range []int{0, 10} {
		for _, name := range []string{"getex"} {
			asked += every(t, now, 2, []string{name}, fewKeys(), behind, behind, behind)
		}
		asked += every(t, now, 3, []string{"set"}, fewKeys(), []string{"v"}, behind, behind, behind)
	}
	asked += every(t, 15, 7, []string{"set"}, []string{"b", "l", "q"}, []string{"v"}, []string{"nx", "xx", "get", "ex", "keepttl", "5", "x"}, behind, behind, behind)
	asked += every(t, 15, 8, []string{"set"}, []string{"b", "l"}, []string{"v"}, []string{"xx", "get", "px", "keepttl", "5"}, []string{"xx", "get", "px", "keepttl", "5"}, []string{"nx", "get", "px", "5"}, []string{"nx", "get", "px", "5"}, []string{"xx", "get", "px", "5", "x"})
	if asked < 50000 {
		t.Errorf("only %d were asked", asked)
	}
}

// P17.3 to P17.9: words that let no reply come but an error or null, for each command, change nothing; and the model says the same of any words at all.
func TestEveryNameWithAnyWords(t *testing.T) {
	any := []string{"a", "l", "q", "1", "x", "ex", "and"}
	for _, name := range chapter() {
		every(t, 10, 1, []string{name, strings.ToUpper(name)}, any, any, any, []string{"a", "1", "x"})
	}
	every(t, 10, 0, []string{"", "ping", "del", "lpush", "multi", "foo"}, any, any)
}

// someRequest is a request of any of the commands, of words that often fit.
func someRequest(r *rand.Rand) []string {
	pick := func(l ...string) string { return l[r.Intn(len(l))] }
	key := func() string { return pick("a", "b", "c", "d", "l", "") }
	text := func() string {
		return pick("", "0", "1", "-5", "99", "x", "hello", "\xff", "\x00\x80", "\xff\xff\xff", "9223372036854775800")
	}
	small := func() string { return pick("-9", "-2", "-1", "0", "1", "2", "3", "7", "8", "9", "30") }
	time := func() []string {
		return [][]string{{"ex", pick("1", "0")}, {"px", pick("1", "3", "20", "x")}, {"exat", "1"}, {"pxat", pick("1", "30", "200", "5000")}}[r.Intn(4)]
	}
	args := []string{pick(chapter()...)}
	switch args[0] {
	case "get", "strlen", "getdel", "incr", "decr":
		return append(args, key())
	case "getset", "setnx", "append":
		return append(args, key(), text())
	case "getrange":
		return append(args, key(), small(), small())
	case "mget":
		return append(args, key(), key(), key())
	case "set":
		args = append(args, key(), text())
		for range r.Intn(4) {
			args = append(args, [][]string{{"nx"}, {"xx"}, {"get"}, {"keepttl"}, time(), time()}[r.Intn(6)]...)
		}
		return args
	case "getex":
		return append(append(args, key()), [][]string{{}, time(), time(), {"persist"}, {"foo"}}[r.Intn(5)]...)
	case "setex", "psetex":
		return append(args, key(), small(), text())
	case "mset", "msetnx":
		for range 1 + r.Intn(3) {
			args = append(args, key(), text())
		}
		return args
	case "setrange", "setbit":
		return append(args, key(), small(), pick("0", "1", "xy", ""))
	case "incrby", "decrby", "getbit":
		return append(args, key(), pick(small(), "9223372036854775807", "-9223372036854775808"))
	case "bitcount":
		return append(append(args, key()), [][]string{{}, {small(), small()}, {small()}}[r.Intn(3)]...)
	case "bitpos":
		return append(append(args, key(), pick("0", "1")), [][]string{{}, {small(), small()}, {small()}}[r.Intn(3)]...)
	}
	return append(args, pick("and", "or", "xor", "not"), key(), key(), key())
}

// P17.2 to P17.11: long scripts on one space, with the clock going on, are answered and change it as the model says.
func TestRandomScripts(t *testing.T) {
	for seed := range int64(300) {
		r := rand.New(rand.NewSource(seed))
		s := space.New()
		now := 0
		for range 120 {
			now += r.Intn(4)
			if r.Intn(20) == 0 {
				s.Put([]string{"l", "a", "d"}[r.Intn(3)], others()["list"], r.Intn(2)*(now+9))
			}
			if !alike(t, s, now, someRequest(r)) {
				t.Fatalf("seed %d", seed)
			}
		}
	}
}
