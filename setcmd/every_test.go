package setcmd

import (
	"fmt"
	"math"
	"math/rand"
	"strings"
	"testing"

	"covenant/api"
	"covenant/space"
)

// deadlines is those that the keys have: none, long ago, at tick 10, behind it, the last tick.
func deadlines() []int { return []int{0, 1, 10, 11, top} }

// each is keys of each kind with each deadline, by names like set10, a set of one element and one of several.
func each() []api.Entry {
	all := others()
	all["one"] = aSet("a")
	all["set"] = aSet("a", "b", "c")
	s := space.New()
	for kind, v := range all {
		for _, due := range deadlines() {
			s.Put(fmt.Sprint(kind, due), v, due)
		}
	}
	return s.Entries()
}

// few is a few keys.
func few() []api.Entry {
	s := space.New()
	s.Put("k", aSet("", "a", "b", "c", "d"), 0)
	s.Put("d", aSet("b"), 20)
	s.Put("o", aSet("a"), 10)
	s.Put("t", aText("x"), 0)
	return s.Entries()
}

// fewKeys is these keys, and one that is absent.
func fewKeys() []string { return []string{"k", "d", "o", "t", "q"} }

// smallSets is the sets of up to four elements.
func smallSets() [][]string {
	sets := [][]string{nil}
	for _, element := range []string{"", "a", "ab", "b"} {
		for _, set := range sets {
			sets = append(sets, append(set[:len(set):len(set)], element))
		}
	}
	return sets
}

// sets is each of them at the key k, as one entry each.
func sets() [][]api.Entry {
	var all [][]api.Entry
	for _, set := range smallSets()[1:] {
		s := space.New()
		s.Put("k", aSet(set...), 0)
		all = append(all, s.Entries())
	}
	return all
}

// trial is a space that is laid anew only when a request changed it, so that many requests cost little.
type trial struct {
	s       *space.Space
	entries []api.Entry
	counter uint64
}

func (x *trial) space() *space.Space {
	if x.s == nil || x.s.Counter() != x.counter {
		x.s = space.New()
		x.s.Load(x.entries)
		x.counter = x.s.Counter()
	}
	return x.s
}

// every asks all requests that have at each place one of the words for it, of the fewest words or more, on these entries, and tells how many that were.
func every(t *testing.T, on []api.Entry, now int, least int, places ...[]string) int {
	t.Helper()
	x := &trial{entries: on}
	asked := 0
	var walk func(args []string, rest [][]string) bool
	walk = func(args []string, rest [][]string) bool {
		if len(args) >= least {
			asked++
			if !alike(t, x.space(), now, args) {
				x.s = nil
				return false
			}
		}
		if len(rest) == 0 {
			return true
		}
		for _, word := range rest[0] {
			if !walk(append(args[:len(args):len(args)], word), rest[1:]) {
				return false
			}
		}
		return true
	}
	walk(nil, places)
	return asked
}

func someNumbers() []string {
	return []string{
		"-9223372036854775809", "-9223372036854775808", "-9223372036854775807", "-9", "-2", "-1", "-0", "0", "00", "1", "01", "+1", "2", "3", "4", "5", "9", "9223372036854775806", "9223372036854775807", "9223372036854775808", "", "x", " 1",
	}
}

// moments is nows about the deadlines of the keys, and beyond the ticks.
func moments() []int {
	return []int{math.MinInt, -1, 0, 1, 9, 10, 11, top - 1, top, top + 1, math.MaxInt}
}

// 21.2 to 21.6: each command at a key of each kind with each deadline, and at none, at each moment.
func TestEveryKey(t *testing.T) {
	asked := 0
	for _, now := range moments() {
		for _, e := range each() {
			on, keys, elements := []api.Entry{e}, []string{e.Key, "q", ""}, []string{"a", "b", ""}
			asked += every(t, on, now, 2, []string{"scard", "Smembers", "SPOP", "sinter", "sunion", "Sdiff"}, keys)
			asked += every(t, on, now, 3, []string{"sismember", "SMISMEMBER", "sadd", "srem"}, keys, elements)
			asked += every(t, on, now, 4, []string{"smismember", "sadd", "SREM"}, keys, elements, elements, elements)
			asked += every(t, on, now, 3, []string{"spop"}, keys, []string{"-1", "0", "1", "2", "3", "x"}, []string{"1"})
			asked += every(t, on, now, 4, []string{"smove"}, keys, keys, elements)
			asked += every(t, on, now, 3, []string{"sinter", "sunion", "sdiff", "sinterstore", "SUNIONSTORE", "sdiffstore"}, keys, keys, keys)
			asked += every(t, on, now, 3, []string{"sscan"}, keys, []string{"0", ">a", "1"}, []string{"count", "match"}, []string{"1", "b"})
		}
	}
	if asked < 140000 {
		t.Errorf("only %d were asked", asked)
	}
}

// 21.2, 21.3: every small set, and every few words.
func TestEverySet(t *testing.T) {
	asked := 0
	k, elements := []string{"k"}, []string{"", "a", "ab", "b", "c"}
	for _, on := range sets() {
		asked += every(t, on, 0, 2, []string{"scard", "smembers", "spop"}, k)
		asked += every(t, on, 0, 3, []string{"spop"}, k, []string{"0", "1", "2", "3", "4", "5", "-1"})
		asked += every(t, on, 0, 3, []string{"sismember"}, k, elements)
		asked += every(t, on, 0, 3, []string{"smismember", "sadd", "srem"}, k, elements, elements, elements, elements)
	}
	if asked < 30000 {
		t.Errorf("only %d were asked", asked)
	}
}

// 21.4, 21.5: every two small sets, with deadlines and without; every two or three keys.
func TestEveryTwo(t *testing.T) {
	asked := 0
	keys, elements := []string{"k", "l", "q"}, []string{"", "a", "ab", "b"}
	for i, one := range smallSets() {
		for j, other := range smallSets() {
			s := space.New()
			s.Put("k", aSet(one...), i%3*10)
			s.Put("l", aSet(other...), j%3*10)
			on := s.Entries()
			asked += every(t, on, 0, 4, []string{"smove"}, keys, keys, elements)
			asked += every(t, on, 10, 4, []string{"smove"}, keys[:2], keys[:2], elements[1:2])
			asked += every(t, on, 0, 2, []string{"sinter", "sunion", "sdiff"}, keys, keys)
			asked += every(t, on, 10, 3, []string{"sinter", "sunion", "sdiff"}, keys[:2], keys, keys[:2])
			asked += every(t, on, 0, 3, []string{"sinterstore", "sunionstore", "sdiffstore"}, keys, keys, keys)
			asked += every(t, on, 10, 3, []string{"sinterstore", "sunionstore", "sdiffstore"}, keys, keys[:2])
		}
	}
	if asked < 50000 {
		t.Errorf("only %d were asked", asked)
	}
}

// 21.5: every three small sets of one element or of two, each command over all three in each order.
func TestEveryThree(t *testing.T) {
	asked := 0
	keys := []string{"k", "l", "m"}
	small := [][]string{{"a"}, {"b"}, {"a", "b"}, {"b", "c"}, {"a", "b", "c"}}
	for _, one := range small {
		for _, two := range small {
			for _, three := range small {
				s := space.New()
				s.Put("k", aSet(one...), 0)
				s.Put("l", aSet(two...), 0)
				s.Put("m", aSet(three...), 0)
				asked += every(t, s.Entries(), 0, 4, []string{"sinter", "sunion", "sdiff"}, keys, keys, keys)
				asked += every(t, s.Entries(), 0, 5, []string{"sinterstore", "sunionstore", "sdiffstore"}, []string{"k", "q"}, keys, keys, keys)
			}
		}
	}
	if asked < 25000 {
		t.Errorf("only %d were asked", asked)
	}
}

// 21.6: every small set from every cursor, with every few options.
func TestEveryScan(t *testing.T) {
	asked := 0
	cursors := []string{"0", ">", "> ", ">a", ">aa", ">ab", ">b", ">c", "", "a", "00"}
	counts, patterns := []string{"0", "1", "2", "3", "4", "5", "9223372036854775807"}, []string{"*", "a*", "", "?", "b", "q"}
	for _, on := range sets() {
		asked += every(t, on, 0, 3, []string{"sscan"}, []string{"k"}, cursors, []string{"count"}, counts, []string{"Match"}, patterns)
		asked += every(t, on, 0, 3, []string{"sscan"}, []string{"k"}, cursors[:5], []string{"MATCH"}, patterns, []string{"COUNT"}, counts)
	}
	if asked < 12000 {
		t.Errorf("only %d were asked", asked)
	}
}

// 21.3, 21.6: each of many words where a number is wanted.
func TestEveryNumber(t *testing.T) {
	asked := 0
	for _, now := range []int{9, 10, 20} {
		asked += every(t, few(), now, 3, []string{"spop", "SPOP"}, fewKeys(), someNumbers(), []string{"1", "x"})
		asked += every(t, few(), now, 5, []string{"sscan"}, fewKeys(), []string{"0", ">a", "x"}, []string{"count", "Count"}, someNumbers())
	}
	if asked < 4000 {
		t.Errorf("only %d were asked", asked)
	}
}

// 21.6: every few words behind SSCAN's cursor.
func TestEveryOption(t *testing.T) {
	behind := []string{"match", "COUNT", "1", "2", "0", "x", "b", "*"}
	asked := 0
	for _, key := range []string{"k", "t", "q"} {
		asked += every(t, few(), 10, 3, []string{"sscan"}, []string{key}, []string{"0", ">a"}, behind, behind, behind, behind)
	}
	for _, third := range []string{"match", "count", "COUNT", "Match", "x"} {
		asked += every(t, few(), 10, 5, []string{"sscan"}, []string{"k"}, []string{"0"}, []string{"match", "count"}, []string{"1", "b", "0"}, []string{"Match", "COUNT"}, []string{"2", "*", "x"}, []string{third}, []string{"1", "x"})
	}
	if asked < 25000 {
		t.Errorf("only %d were asked", asked)
	}
}

// 21.1: any words at all behind any of the names: the model says the same.
func TestEveryNameWithAnyWords(t *testing.T) {
	any := []string{"k", "d", "t", "q", "1", "0", "a", "b", "count"}
	for _, name := range chapter() {
		every(t, few(), 10, 1, []string{name, strings.ToUpper(name)}, any, any, any, []string{"a", "1", "match"}, []string{"b", "2"})
	}
	every(t, few(), 10, 0, []string{"", "get", "del", "hset", "multi", "foo"}, any, any)
}

// someRequest is a request of any of the commands, of words that often fit.
func someRequest(r *rand.Rand) []string {
	pick := func(l ...string) string { return l[r.Intn(len(l))] }
	key := func() string { return pick("k", "l", "m", "n", "") }
	element := func() string { return pick("a", "b", "c", "d", "e", "ab", "") }
	args := []string{pick(append(chapter(), "sadd", "sadd", "smove")...), key()}
	switch args[0] {
	case "sadd", "srem", "smismember":
		for range 1 + r.Intn(4) {
			args = append(args, element())
		}
	case "sismember":
		args = append(args, element())
	case "smove":
		args = append(args, key(), element())
	case "spop":
		for range r.Intn(10) / 4 {
			args = append(args, pick("0", "1", "2", "3", "-1", "x"))
		}
	case "sinter", "sunion", "sdiff":
		for range r.Intn(4) {
			args = append(args, key())
		}
	case "sinterstore", "sunionstore", "sdiffstore":
		for range 1 + r.Intn(3) {
			args = append(args, key())
		}
	case "sscan":
		args = append(args, pick("0", ">", ">a", ">b", ">aa", "a"))
		for range r.Intn(3) {
			args = append(args, pick("match", "COUNT"), pick("*", "a*", "1", "2", "3", "?"))
		}
	}
	return args
}

// 21.2 to 21.7: long scripts on one space, with the clock going on, are answered and change it as the model says.
func TestRandomScripts(t *testing.T) {
	for seed := range int64(300) {
		r := rand.New(rand.NewSource(seed))
		s := space.New()
		now := 0
		for range 150 {
			now += r.Intn(4)
			switch r.Intn(20) {
			case 0:
				s.Put([]string{"k", "l", "m", "n", ""}[r.Intn(5)], others()[[]string{"string", "list", "hash", "zset"}[r.Intn(4)]], now+1+r.Intn(20))
			case 1, 2:
				s.SetDue([]string{"k", "l", "m", "n", ""}[r.Intn(5)], r.Intn(2)*(now+r.Intn(20)))
			}
			if !alike(t, s, now, someRequest(r)) {
				t.Fatalf("seed %d", seed)
			}
		}
	}
}
