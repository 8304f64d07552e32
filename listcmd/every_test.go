package listcmd

import (
	"fmt"
	"math"
	"math/rand"
	"strings"
	"testing"

	"covenant/api"
	"covenant/space"
)

// deadlines is those that the keys have: none, long ago, at tick 10, behind it, the last tick.
func deadlines() []int { return []int{0, 1, 10, 11, top} }

// each is keys of each kind with each deadline, by names like list10, a list of one element and one of several.
func each() []api.Entry {
	all := others()
	all["one"] = aList("a")
	all["list"] = aList("a", "b", "a")
	s := space.New()
	for kind, v := range all {
		for _, due := range deadlines() {
			s.Put(fmt.Sprint(kind, due), v, due)
		}
	}
	return s.Entries()
}

// few is a few keys.
func few() []api.Entry {
	s := space.New()
	s.Put("k", aList("a", "b", "a", "c"), 0)
	s.Put("d", aList("b"), 20)
	s.Put("o", aList("a"), 10)
	s.Put("t", aText("x"), 0)
	return s.Entries()
}

// fewKeys is these keys, and one that is absent.
func fewKeys() []string { return []string{"k", "d", "o", "t", "q"} }

// lists is the short lists out of the letters a and b, and some longer ones, as one entry each.
func lists() [][]api.Entry {
	rows := []string{"a", "b"}
	for i := 0; len(rows[i]) < 4; i++ {
		rows = append(rows, rows[i]+"a", rows[i]+"b")
	}
	var all [][]api.Entry
	for _, row := range append(rows, "abcabc", "aabbaa", "cabacab") {
		s := space.New()
		s.Put("k", aList(strings.Split(row, "")...), 0)
		all = append(all, s.Entries())
	}
	return all
}

// trial is a space that is laid anew only when a request changed it, so that many requests cost little.
type trial struct {
	s       *space.Space
	entries []api.Entry
	counter uint64
}

func (x *trial) space() *space.Space {
	if x.s == nil || x.s.Counter() != x.counter {
		x.s = space.New()
		x.s.Load(x.entries)
		x.counter = x.s.Counter()
	}
	return x.s
}

// every asks all requests that have at each place one of the words for it, of the fewest words or more, on these entries, and tells how many that were.
func every(t *testing.T, on []api.Entry, now int, least int, places ...[]string) int {
	t.Helper()
	x := &trial{entries: on}
	asked := 0
	var walk func(args []string, rest [][]string) bool
	walk = func(args []string, rest [][]string) bool {
		if len(args) >= least {
			asked++
			if !alike(t, x.space(), now, args) {
				x.s = nil
				return false
			}
		}
		if len(rest) == 0 {
			return true
		}
		for _, word := range rest[0] {
			if !walk(append(args[:len(args):len(args)], word), rest[1:]) {
				return false
			}
		}
		return true
	}
	walk(nil, places)
	return asked
}

func someNumbers() []string {
	return []string{
		"-9223372036854775809", "-9223372036854775808", "-9223372036854775807", "-9", "-5", "-4", "-3", "-2", "-1", "-0", "0", "00", "1", "01", "+1", "2", "3", "4", "5", "9", "9223372036854775806", "9223372036854775807", "9223372036854775808", "", "x", " 1",
	}
}

// somePlaces is numbers from behind either end of a short list to behind the other.
func somePlaces() []string {
	return []string{"-9223372036854775808", "-6", "-5", "-4", "-3", "-2", "-1", "0", "1", "2", "3", "4", "5", "6", "9223372036854775807"}
}

// moments is nows about the deadlines of the keys, and beyond the ticks.
func moments() []int {
	return []int{math.MinInt, -1, 0, 1, 9, 10, 11, top - 1, top, top + 1, math.MaxInt}
}

func ends() []string { return []string{"left", "RIGHT"} }

// 19.2 to 19.6: each command at a key of each kind with each deadline, and at none, at each moment.
func TestEveryKey(t *testing.T) {
	asked := 0
	for _, now := range moments() {
		for _, e := range each() {
			on, keys, elements := []api.Entry{e}, []string{e.Key, "q", ""}, []string{"a", "b", "x"}
			asked += every(t, on, now, 2, []string{"lpush", "Rpush", "LPUSHX", "rpushx", "lpop", "Rpop", "llen"}, keys, []string{"0", "1", "2", "a"})
			asked += every(t, on, now, 3, []string{"lindex", "lpos"}, keys, []string{"0", "-1", "2", "a", "b"})
			asked += every(t, on, now, 4, []string{"lrange", "ltrim"}, keys, []string{"0", "1", "-1"}, []string{"0", "-1", "-2"})
			asked += every(t, on, now, 4, []string{"lset", "lrem"}, keys, []string{"0", "-1", "2"}, elements)
			asked += every(t, on, now, 5, []string{"linsert"}, keys, []string{"before", "AFTER"}, elements, elements[:1])
			asked += every(t, on, now, 5, []string{"lpos"}, keys, elements, []string{"count", "rank"}, []string{"1", "-1"})
		}
	}
	if asked < 40000 {
		t.Errorf("only %d were asked", asked)
	}
}

// 19.5: from each key to each other one, itself, and none, by each pair of ends.
func TestEveryTwoKeys(t *testing.T) {
	asked := 0
	for _, now := range []int{0, 10} {
		for i, e := range each() {
			for j, other := range each() {
				on := []api.Entry{e}
				if i < j {
					on = []api.Entry{e, other}
				}
				if i > j {
					on = []api.Entry{other, e}
				}
				asked += every(t, on, now, 5, []string{"lmove"}, []string{e.Key}, []string{other.Key, "q"}, ends(), ends())
				asked += every(t, on, now, 3, []string{"rpoplpush"}, []string{e.Key, "q"}, []string{other.Key, "q"})
			}
		}
	}
	if asked < 15000 {
		t.Errorf("only %d were asked", asked)
	}
}

// 19.2 to 19.4: every short list and every place in it, either end's, and behind it.
func TestEveryList(t *testing.T) {
	asked := 0
	k, elements := []string{"k"}, []string{"a", "b", "c"}
	for _, on := range lists() {
		asked += every(t, on, 0, 4, []string{"lrange", "ltrim"}, k, somePlaces(), somePlaces())
		asked += every(t, on, 0, 3, []string{"lindex", "lpop", "rpop"}, k, somePlaces())
		asked += every(t, on, 0, 4, []string{"lset", "lrem"}, k, somePlaces(), elements)
		asked += every(t, on, 0, 5, []string{"linsert"}, k, []string{"before", "after"}, elements, elements)
		asked += every(t, on, 0, 5, []string{"lmove"}, k, []string{"k", "d"}, ends(), ends())
		asked += every(t, on, 0, 3, []string{"lpush", "rpush", "lpushx", "rpushx"}, k, elements, elements, elements[:1])
	}
	if asked < 20000 {
		t.Errorf("only %d were asked", asked)
	}
}

// 19.6: every short list with every few ranks, counts and lengths.
func TestEveryPlaces(t *testing.T) {
	asked := 0
	ranks := []string{"-9223372036854775808", "-4", "-3", "-2", "-1", "1", "2", "3", "4", "9223372036854775807"}
	counts := []string{"0", "1", "2", "3", "9", "9223372036854775807"}
	for _, on := range lists() {
		asked += every(t, on, 0, 3, []string{"lpos"}, []string{"k"}, []string{"a", "c"}, []string{"rank"}, ranks, []string{"count"}, counts, []string{"maxlen"}, counts)
		asked += every(t, on, 0, 3, []string{"lpos"}, []string{"k"}, []string{"b"}, []string{"maxlen"}, counts, []string{"rank"}, ranks)
	}
	if asked < 30000 {
		t.Errorf("only %d were asked", asked)
	}
}

// 19.2 to 19.6: each of many words where a number is wanted.
func TestEveryNumber(t *testing.T) {
	asked := 0
	for _, now := range []int{9, 10, 20} {
		asked += every(t, few(), now, 3, []string{"lpop", "RPOP", "lindex"}, fewKeys(), someNumbers())
		asked += every(t, few(), now, 4, []string{"lrange", "ltrim"}, []string{"k", "t", "q"}, someNumbers(), someNumbers())
		asked += every(t, few(), now, 4, []string{"lset", "lrem"}, fewKeys(), someNumbers(), []string{"a", ""})
		asked += every(t, few(), now, 5, []string{"lpos"}, fewKeys(), []string{"a"}, []string{"rank", "Count", "MAXLEN"}, someNumbers(), []string{"count"}, []string{"0", "x"})
	}
	if asked < 10000 {
		t.Errorf("only %d were asked", asked)
	}
}

// 19.6: every few words behind what LPOS seeks.
func TestEveryOption(t *testing.T) {
	behind := []string{"rank", "COUNT", "maxlen", "1", "-1", "0", "x"}
	asked := 0
	for _, key := range []string{"k", "t", "q"} {
		asked += every(t, few(), 10, 3, []string{"lpos"}, []string{key}, []string{"a"}, behind, behind, behind, behind)
	}
	names, numbers := []string{"Rank", "Count", "Maxlen"}, []string{"2", "-1", "0"}
	asked += every(t, few(), 10, 3, []string{"lpos"}, []string{"k"}, []string{"a"}, names, numbers, names, numbers, names, numbers, names, numbers)
	if asked < 15000 {
		t.Errorf("only %d were asked", asked)
	}
}

// 19.3 to 19.5: every few words where an end, a side or a count is wanted.
func TestEveryWord(t *testing.T) {
	some := []string{"left", "Right", "before", "AFTER", "0", "1", "x", ""}
	asked := 0
	for _, now := range []int{9, 10, 20} {
		asked += every(t, few(), now, 5, []string{"lmove"}, fewKeys(), fewKeys(), some, some)
		asked += every(t, few(), now, 5, []string{"linsert"}, fewKeys(), some, []string{"a", "b", "x"}, []string{"a", ""})
		asked += every(t, few(), now, 2, []string{"lpop", "rpop"}, fewKeys(), some, some, some[:2])
		asked += every(t, few(), now, 2, []string{"rpoplpush"}, fewKeys(), fewKeys(), some[:1])
	}
	if asked < 8000 {
		t.Errorf("only %d were asked", asked)
	}
}

// 19.1: any words at all behind any of the names: the model says the same.
func TestEveryNameWithAnyWords(t *testing.T) {
	any := []string{"k", "d", "t", "q", "1", "0", "left", "before", "count"}
	for _, name := range chapter() {
		every(t, few(), 10, 1, []string{name, strings.ToUpper(name)}, any, any, any, []string{"a", "1", "right"})
	}
	every(t, few(), 10, 0, []string{"", "get", "del", "hset", "multi", "foo"}, any, any)
}

// someRequest is a request of any of the commands, of words that often fit.
func someRequest(r *rand.Rand) []string {
	pick := func(l ...string) string { return l[r.Intn(len(l))] }
	key := func() string { return pick("k", "l", "m", "n", "") }
	element := func() string { return pick("a", "b", "c", "d", "") }
	small := func() string { return pick("-9", "-3", "-2", "-1", "0", "1", "2", "3", "7") }
	args := []string{pick(append(chapter(), "lpush", "rpush", "rpush")...), key()}
	switch args[0] {
	case "lpush", "rpush", "lpushx", "rpushx":
		for range 1 + r.Intn(3) {
			args = append(args, element())
		}
	case "lpop", "rpop":
		if r.Intn(2) == 0 {
			args = append(args, small())
		}
	case "lrange", "ltrim":
		args = append(args, pick("-7", "-2", "0", "0", "1"), pick("-1", "-1", "-2", "2", "9"))
	case "lindex":
		args = append(args, small())
	case "lset", "lrem":
		args = append(args, small(), element())
	case "linsert":
		args = append(args, pick("before", "after", "x"), element(), element())
	case "lmove":
		args = append(args, key(), pick("left", "right"), pick("left", "right"))
	case "rpoplpush":
		args = append(args, key())
	case "lpos":
		args = append(args, element())
		for range r.Intn(4) {
			args = append(args, pick("rank", "count", "maxlen"), small())
		}
	}
	return args
}

// 19.2 to 19.7: long scripts on one space, with the clock going on, are answered and change it as the model says.
func TestRandomScripts(t *testing.T) {
	for seed := range int64(300) {
		r := rand.New(rand.NewSource(seed))
		s := space.New()
		now := 0
		for range 150 {
			now += r.Intn(4)
			switch r.Intn(20) {
			case 0:
				s.Put([]string{"k", "l", "m", "n", ""}[r.Intn(5)], others()[[]string{"string", "hash", "set", "zset"}[r.Intn(4)]], now+1+r.Intn(20))
			case 1, 2:
				s.SetDue([]string{"k", "l", "m", "n", ""}[r.Intn(5)], r.Intn(2)*(now+r.Intn(20)))
			}
			if !alike(t, s, now, someRequest(r)) {
				t.Fatalf("seed %d", seed)
			}
		}
	}
}
