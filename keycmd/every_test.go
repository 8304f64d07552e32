package keycmd

import (
	"fmt"
	"math"
	"math/rand"
	"strings"
	"testing"

	"covenant/api"
	"covenant/space"
)

// deadlines is those that the keys of each kind have: none, long ago, at tick 10, behind it, the last tick.
func deadlines() []int { return []int{0, 1, 10, 11, 1500, top} }

// each is keys of each kind with each deadline, by names like list10.
func each() []api.Entry {
	s := space.New()
	for kind, v := range kinds() {
		for _, due := range deadlines() {
			s.Put(fmt.Sprint(kind, due), v, due)
		}
	}
	return s.Entries()
}

// few is a few of them.
func few() []api.Entry {
	s := space.New()
	s.Put("a", aText("1"), 0)
	s.Put("ab", aText("x"), 20)
	s.Put("b", kinds()["list"], 11)
	s.Put("o", kinds()["zset"], 10)
	return s.Entries()
}

// fewKeys is these keys, and one that is absent.
func fewKeys() []string { return []string{"a", "ab", "b", "o", "q"} }

// trial is a space that is laid anew only when a request changed it, so that many requests cost little.
type trial struct {
	s       *space.Space
	entries []api.Entry
	counter uint64
}

func (x *trial) space() *space.Space {
	if x.s == nil || x.s.Counter() != x.counter {
		x.s = space.New()
		x.s.Load(x.entries)
		x.counter = x.s.Counter()
	}
	return x.s
}

// every asks all requests that have at each place one of the words for it, of the fewest words or more, on these entries, and tells how many that were.
func every(t *testing.T, on []api.Entry, now int, least int, places ...[]string) int {
	t.Helper()
	x := &trial{entries: on}
	asked := 0
	var walk func(args []string, rest [][]string) bool
	walk = func(args []string, rest [][]string) bool {
		if len(args) >= least {
			asked++
			if !alike(t, x.space(), now, args) {
				x.s = nil
				return false
			}
		}
		if len(rest) == 0 {
			return true
		}
		for _, word := range rest[0] {
			if !walk(append(args[:len(args):len(args)], word), rest[1:]) {
				return false
			}
		}
		return true
	}
	walk(nil, places)
	return asked
}

func someNumbers() []string {
	return []string{
		"-9223372036854775809", "-9223372036854775808", "-9223372036854776", "-9007199254740993", "-9007199254740992", "-1000", "-11", "-10", "-9", "-2", "-1", "-0", "0", "00", "1", "01", "+1", "2", "9", "10", "11", "12", "20", "1000",
		"9007199254739", "9007199254740", "9007199254741", "9007199254740981", "9007199254740982", "9007199254740983", "9007199254740991", "9007199254740992", "9007199254740993", "9223372036854775", "9223372036854776", "18446744073709552", "9223372036854775807", "9223372036854775808", "", "x", " 1",
	}
}

// moments is nows about the deadlines of the keys, and beyond the ticks.
func moments() []int {
	return []int{math.MinInt, -1, 0, 1, 9, 10, 11, 499, 500, 501, 1499, 1500, 1501, top - 1001, top - 1000, top - 1, top, top + 1, math.MaxInt}
}

// P18.2 to P18.5, P18.7: each command at a key of each kind with each deadline, and at none, at each moment.
func TestEveryKey(t *testing.T) {
	asked := 0
	for _, now := range moments() {
		for _, e := range each() {
			on, keys := []api.Entry{e}, []string{e.Key, "q", ""}
			asked += every(t, on, now, 2, []string{"del", "Exists", "UNLINK", "type", "persist", "ttl", "PTTL", "expiretime", "pexpiretime", "dump", "echo", "ping"}, keys)
			asked += every(t, on, now, 3, []string{"expire", "pexpire", "expireat", "PexpireAt"}, keys[:2], []string{"-1", "0", "1", "10", "9007199254740"}, []string{"nx", "XX", "gt", "Lt"})
			asked += every(t, on, now, 4, []string{"restore"}, keys[:2], []string{"0", "1", "10", "1500"}, []string{one}, []string{"replace", "ABSTTL"}, []string{"absttl"})
		}
		asked += every(t, each(), now, 1, []string{"dbsize", "flushall", "FLUSHDB", "ping"})
	}
	if asked < 50000 {
		t.Errorf("only %d were asked", asked)
	}
}

// P18.3: each key onto each other one, itself, and none.
func TestEveryTwoKeys(t *testing.T) {
	asked := 0
	for _, now := range []int{0, 10, 1500} {
		for i, e := range each() {
			for j, other := range each() {
				on := []api.Entry{e}
				if i != j {
					on = []api.Entry{e, other}
				}
				if i > j {
					on = []api.Entry{other, e}
				}
				asked += every(t, on, now, 3, []string{"rename", "RenameNX", "copy"}, []string{e.Key}, []string{other.Key, "q"}, []string{"Replace"})
			}
		}
	}
	if asked < 20000 {
		t.Errorf("only %d were asked", asked)
	}
}

// P18.4, P18.7: each of many numbers for a deadline, at each moment.
func TestEveryNumber(t *testing.T) {
	asked := 0
	for _, now := range moments() {
		asked += every(t, few(), now, 3, []string{"expire", "pexpire", "expireat", "pexpireat"}, []string{"a", "b", "q"}, someNumbers(), []string{"nx", "lt", "foo"})
		asked += every(t, few(), now, 4, []string{"restore"}, []string{"a", "q"}, someNumbers(), []string{one, "x"}, []string{"absttl", "replace", "foo"})
		asked += every(t, few(), now, 4, []string{"scan"}, []string{"0", ">a"}, []string{"count"}, someNumbers())
	}
	if asked < 30000 {
		t.Errorf("only %d were asked", asked)
	}
}

// P18.3, P18.4, P18.6, P18.7: every few words behind a command's own.
func TestEveryOption(t *testing.T) {
	behind := []string{"nx", "XX", "gt", "Lt", "replace", "ABSTTL", "match", "count", "1", ""}
	asked := 0
	for _, now := range []int{5, 10} {
		asked += every(t, few(), now, 3, []string{"copy"}, fewKeys(), fewKeys(), behind, behind)
		for _, n := range []string{"1", "20", "-1", "9007199254740992"} {
			asked += every(t, few(), now, 3, []string{"pexpireat", "pexpire"}, fewKeys(), []string{n}, behind, behind, behind[:5])
			asked += every(t, few(), now, 4, []string{"restore"}, fewKeys(), []string{n}, []string{one, one + "x"}, behind, behind)
		}
	}
	asked += every(t, few(), 10, 3, []string{"pexpireat"}, []string{"a", "ab"}, []string{"15", "25"}, behind[:4], behind[:4], behind[:4], behind[:4])
	if asked < 30000 {
		t.Errorf("only %d were asked", asked)
	}
}

// P18.6: KEYS with every pattern of few signs, SCAN from every cursor with every few words behind.
func TestEveryWalk(t *testing.T) {
	asked := 0
	for _, now := range []int{5, 10, 20} {
		asked += every(t, few(), now, 2, []string{"keys"}, []string{"", "*", "?", "a*", "*b", "[ab]", "[^a]", "a", "ab", "o", `\*`, "A"})
		cursors := []string{"0", ">", ">a", ">aa", ">ab", ">b", ">o", ">z", ">0", "", "1", "00", "a", "-0", "<"}
		behind := []string{"match", "COUNT", "1", "2", "0", "a*", "", "x"}
		asked += every(t, few(), now, 2, []string{"scan"}, cursors, behind, behind, behind[:2], behind)
	}
	asked += every(t, few(), 5, 2, []string{"scan"}, []string{"0", ">a"}, []string{"match", "count"}, []string{"1", "3", "b"}, []string{"Match", "Count"}, []string{"2", "a*", "-1"}, []string{"MATCH", "COUNT"}, []string{"*", "4", "x"})
	if asked < 15000 {
		t.Errorf("only %d were asked", asked)
	}
}

// P18.2: the commands on several keys with every few of them, each as often as may be.
func TestEveryFewKeys(t *testing.T) {
	keys := append(fewKeys(), "")
	for _, now := range []int{-1, 9, 10, 15, 20} {
		every(t, few(), now, 2, []string{"del", "unlink", "EXISTS"}, keys, keys, keys, keys)
		every(t, few(), now, 1, []string{"ping"}, keys, keys, keys)
	}
}

// Any words at all behind any of the names: the model says the same.
func TestEveryNameWithAnyWords(t *testing.T) {
	any := []string{"a", "b", "q", "1", "0", "x", "replace", "count", one}
	for _, name := range chapter() {
		every(t, few(), 10, 1, []string{name, strings.ToUpper(name)}, any, any, any, []string{"a", "1", "replace"})
	}
	every(t, few(), 10, 0, []string{"", "get", "set", "lpush", "multi", "foo"}, any, any)
}

// someRequest is a request of any of the commands, of words that often fit.
func someRequest(r *rand.Rand) []string {
	pick := func(l ...string) string { return l[r.Intn(len(l))] }
	key := func() string { return pick("a", "ab", "b", "c", "d", "", ">", "0") }
	small := func() string { return pick("-9", "-1", "0", "1", "2", "3", "7", "30", "200", "1000") }
	some := func(args []string, l ...string) []string {
		for range r.Intn(3) {
			args = append(args, pick(l...))
		}
		return args
	}
	args := []string{pick(chapter()...)}
	switch args[0] {
	case "flushall", "flushdb":
		// So often that the keys seldom come to much.
		if r.Intn(4) > 0 {
			return []string{"dbsize"}
		}
		return args
	case "dbsize", "ping":
		return args
	case "del", "unlink", "exists":
		return append(args, key(), key())
	case "keys":
		return append(args, pick("*", "a*", "?", "", "[a-c]*"))
	case "rename", "renamenx":
		return append(args, key(), key())
	case "copy":
		return some(append(args, key(), key()), "replace", "REPLACE", "x")
	case "expire", "pexpire", "expireat", "pexpireat":
		return some(append(args, key(), small()), "nx", "xx", "gt", "lt")
	case "scan":
		args = append(args, pick("0", ">"+key(), ">"+key()))
		for range r.Intn(3) {
			args = append(args, [][]string{{"count", pick("1", "2", "3", "0")}, {"match", pick("*", "a*", "?")}}[r.Intn(2)]...)
		}
		return args
	case "restore":
		return some(append(args, key(), small(), pick(one, "\x02\x01\x00\x00\x00\x01\x00\x00\x00a", "x")), "replace", "absttl")
	}
	return append(args, key())
}

// P18.2 to P18.8: long scripts on one space, with the clock going on, are answered and change it as the model says.
func TestRandomScripts(t *testing.T) {
	for seed := range int64(300) {
		r := rand.New(rand.NewSource(seed))
		s := space.New()
		now := 0
		for range 150 {
			now += r.Intn(4)
			if r.Intn(3) == 0 {
				kind := []string{"string", "list", "hash", "set", "zset"}[r.Intn(5)]
				s.Put([]string{"a", "ab", "b", "c", "d", "", ">"}[r.Intn(7)], kinds()[kind], r.Intn(2)*(now+r.Intn(20)))
			}
			if !alike(t, s, now, someRequest(r)) {
				t.Fatalf("seed %d", seed)
			}
		}
	}
}
