package hashcmd

import (
	"fmt"
	"math"
	"math/rand"
	"strings"
	"testing"

	"covenant/api"
	"covenant/space"
)

// deadlines is those that the keys have: none, long ago, at tick 10, behind it, the last tick.
func deadlines() []int { return []int{0, 1, 10, 11, top} }

// each is keys of each kind with each deadline, by names like hash10, a hash of one field and one of several.
func each() []api.Entry {
	all := others()
	all["one"] = aHash("a", "1")
	all["hash"] = aHash("a", "x", "b", "-1", "c", "1")
	s := space.New()
	for kind, v := range all {
		for _, due := range deadlines() {
			s.Put(fmt.Sprint(kind, due), v, due)
		}
	}
	return s.Entries()
}

// few is a few keys.
func few() []api.Entry {
	s := space.New()
	s.Put("k", aHash("", "0", "a", "1", "b", "x", "c", "9223372036854775807", "d", "-9223372036854775808"), 0)
	s.Put("d", aHash("b", "2"), 20)
	s.Put("o", aHash("a", "1"), 10)
	s.Put("t", aText("x"), 0)
	return s.Entries()
}

// fewKeys is these keys, and one that is absent.
func fewKeys() []string { return []string{"k", "d", "o", "t", "q"} }

// hashes is the hashes of up to four names, each with one of two values, as one entry each.
func hashes() [][]api.Entry {
	rows := [][]string{nil}
	for _, name := range []string{"", "a", "ab", "b"} {
		for _, row := range rows {
			for _, value := range []string{"1", "x"} {
				rows = append(rows, append(row[:len(row):len(row)], name, value))
			}
		}
	}
	var all [][]api.Entry
	for _, row := range rows[1:] {
		s := space.New()
		s.Put("k", aHash(row...), 0)
		all = append(all, s.Entries())
	}
	return all
}

// trial is a space that is laid anew only when a request changed it, so that many requests cost little.
type trial struct {
	s       *space.Space
	entries []api.Entry
	counter uint64
}

func (x *trial) space() *space.Space {
	if x.s == nil || x.s.Counter() != x.counter {
		x.s = space.New()
		x.s.Load(x.entries)
		x.counter = x.s.Counter()
	}
	return x.s
}

// every asks all requests that have at each place one of the words for it, of the fewest words or more, on these entries, and tells how many that were.
func every(t *testing.T, on []api.Entry, now int, least int, places ...[]string) int {
	t.Helper()
	x := &trial{entries: on}
	asked := 0
	var walk func(args []string, rest [][]string) bool
	walk = func(args []string, rest [][]string) bool {
		if len(args) >= least {
			asked++
			if !alike(t, x.space(), now, args) {
				x.s = nil
				return false
			}
		}
		if len(rest) == 0 {
			return true
		}
		for _, word := range rest[0] {
			if !walk(append(args[:len(args):len(args)], word), rest[1:]) {
				return false
			}
		}
		return true
	}
	walk(nil, places)
	return asked
}

func someNumbers() []string {
	return []string{
		"-9223372036854775809", "-9223372036854775808", "-9223372036854775807", "-9", "-2", "-1", "-0", "0", "00", "1", "01", "+1", "2", "3", "4", "5", "9", "9223372036854775806", "9223372036854775807", "9223372036854775808", "", "x", " 1",
	}
}

// moments is nows about the deadlines of the keys, and beyond the ticks.
func moments() []int {
	return []int{math.MinInt, -1, 0, 1, 9, 10, 11, top - 1, top, top + 1, math.MaxInt}
}

// P20.2 to P20.4: each command at a key of each kind with each deadline, and at none, at each moment.
func TestEveryKey(t *testing.T) {
	asked := 0
	for _, now := range moments() {
		for _, e := range each() {
			on, keys, names, values := []api.Entry{e}, []string{e.Key, "q", ""}, []string{"a", "b", ""}, []string{"1", "x", "-1"}
			asked += every(t, on, now, 2, []string{"hlen", "Hkeys", "HVALS", "hgetall"}, keys)
			asked += every(t, on, now, 3, []string{"hget", "HEXISTS", "hstrlen", "hmget", "hdel"}, keys, names)
			asked += every(t, on, now, 4, []string{"hmget", "hdel"}, keys, names, names, names)
			asked += every(t, on, now, 4, []string{"hset", "Hmset", "hsetnx", "hincrby"}, keys, names, values)
			asked += every(t, on, now, 5, []string{"hset", "hmset"}, keys[:2], names, values[:2], names, values[:2])
			asked += every(t, on, now, 3, []string{"hscan"}, keys, []string{"0", ">a", "1"}, []string{"count", "match"}, []string{"1", "b"})
		}
	}
	if asked < 80000 {
		t.Errorf("only %d were asked", asked)
	}
}

// P20.2, P20.3: every small hash, and every few pairs and names.
func TestEveryHash(t *testing.T) {
	asked := 0
	k, names, values := []string{"k"}, []string{"", "a", "ab", "b", "c"}, []string{"1", "x"}
	for _, on := range hashes() {
		asked += every(t, on, 0, 2, []string{"hlen", "hkeys", "hvals", "hgetall"}, k)
		asked += every(t, on, 0, 3, []string{"hget", "hexists", "hstrlen"}, k, names)
		asked += every(t, on, 0, 3, []string{"hmget", "hdel"}, k, names, names, names)
		asked += every(t, on, 0, 4, []string{"hsetnx", "hincrby"}, k, names, values)
		asked += every(t, on, 0, 4, []string{"hset", "hmset"}, k, names, values, names, values)
	}
	if asked < 20000 {
		t.Errorf("only %d were asked", asked)
	}
}

// P20.4: every small hash from every cursor, with every few options.
func TestEveryScan(t *testing.T) {
	asked := 0
	cursors := []string{"0", ">", "> ", ">a", ">aa", ">ab", ">b", ">c", "", "a", "00"}
	counts, patterns := []string{"0", "1", "2", "3", "4", "5", "9223372036854775807"}, []string{"*", "a*", "", "?", "b", "q"}
	for _, on := range hashes() {
		asked += every(t, on, 0, 3, []string{"hscan"}, []string{"k"}, cursors, []string{"count"}, counts, []string{"Match"}, patterns)
		asked += every(t, on, 0, 3, []string{"hscan"}, []string{"k"}, cursors[:5], []string{"MATCH"}, patterns, []string{"COUNT"}, counts)
	}
	if asked < 50000 {
		t.Errorf("only %d were asked", asked)
	}
}

// P20.2, P20.4: each of many words where a number is wanted.
func TestEveryNumber(t *testing.T) {
	asked := 0
	names := []string{"", "a", "b", "c", "d", "q"}
	for _, now := range []int{9, 10, 20} {
		asked += every(t, few(), now, 4, []string{"hincrby", "HINCRBY"}, fewKeys(), names, someNumbers())
		asked += every(t, few(), now, 5, []string{"hscan"}, fewKeys(), []string{"0", ">a", "x"}, []string{"count", "Count"}, someNumbers())
	}
	for _, value := range someNumbers() {
		s := space.New()
		s.Put("k", aHash("a", value), 0)
		asked += every(t, s.Entries(), 0, 4, []string{"hincrby"}, []string{"k"}, []string{"a", "b"}, someNumbers())
	}
	if asked < 5000 {
		t.Errorf("only %d were asked", asked)
	}
}

// P20.4: every few words behind HSCAN's cursor.
func TestEveryOption(t *testing.T) {
	behind := []string{"match", "COUNT", "1", "2", "0", "x", "b", "*"}
	asked := 0
	for _, key := range []string{"k", "t", "q"} {
		asked += every(t, few(), 10, 3, []string{"hscan"}, []string{key}, []string{"0", ">a"}, behind, behind, behind, behind)
	}
	if asked < 25000 {
		t.Errorf("only %d were asked", asked)
	}
}

// P20.1: any words at all behind any of the names: the model says the same.
func TestEveryNameWithAnyWords(t *testing.T) {
	any := []string{"k", "d", "t", "q", "1", "0", "a", "b", "count"}
	for _, name := range chapter() {
		every(t, few(), 10, 1, []string{name, strings.ToUpper(name)}, any, any, any, []string{"a", "1", "match"}, []string{"b", "2"})
	}
	every(t, few(), 10, 0, []string{"", "get", "del", "lpush", "multi", "foo"}, any, any)
}

// someRequest is a request of any of the commands, of words that often fit.
func someRequest(r *rand.Rand) []string {
	pick := func(l ...string) string { return l[r.Intn(len(l))] }
	name := func() string { return pick("a", "b", "c", "d", "e", "ab", "") }
	value := func() string { return pick("0", "1", "-1", "x", "", "9223372036854775807", "-9223372036854775808") }
	args := []string{pick(append(chapter(), "hset", "hset", "hdel")...), pick("k", "l", "m", "n", "")}
	switch args[0] {
	case "hset", "hmset":
		for range 1 + r.Intn(3) {
			args = append(args, name(), value())
		}
		if r.Intn(10) == 0 {
			args = append(args, name())
		}
	case "hsetnx", "hincrby":
		args = append(args, name(), value())
	case "hdel", "hmget":
		for range 1 + r.Intn(4) {
			args = append(args, name())
		}
	case "hget", "hexists", "hstrlen":
		args = append(args, name())
	case "hscan":
		args = append(args, pick("0", ">", ">a", ">b", ">aa", "a"))
		for range r.Intn(3) {
			args = append(args, pick("match", "COUNT"), pick("*", "a*", "1", "2", "3", "?"))
		}
	}
	return args
}

// P20.2 to P20.6: long scripts on one space, with the clock going on, are answered and change it as the model says.
func TestRandomScripts(t *testing.T) {
	for seed := range int64(300) {
		r := rand.New(rand.NewSource(seed))
		s := space.New()
		now := 0
		for range 150 {
			now += r.Intn(4)
			switch r.Intn(20) {
			case 0:
				s.Put([]string{"k", "l", "m", "n", ""}[r.Intn(5)], others()[[]string{"string", "list", "set", "zset"}[r.Intn(4)]], now+1+r.Intn(20))
			case 1, 2:
				s.SetDue([]string{"k", "l", "m", "n", ""}[r.Intn(5)], r.Intn(2)*(now+r.Intn(20)))
			}
			if !alike(t, s, now, someRequest(r)) {
				t.Fatalf("seed %d", seed)
			}
		}
	}
}
