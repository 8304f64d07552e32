package strcmd

import (
	"math"
	"math/rand"
	"testing"

	"covenant/api"
	"covenant/num"
	"covenant/resp"
	"covenant/space"
)

// mustRun gives the reply to a request that is one of these commands'.
func mustRun(t *testing.T, s *space.Space, now int, args ...string) api.Reply {
	t.Helper()
	r, ok := Run(s, now, args)
	if !ok {
		t.Fatalf("%q is not done", args)
	}
	return r
}

func someTexts() []string {
	all := []string{"", "x", "0", "-5", "hello", "\x00", "\xff\xfe", "\r\n", "nx", "a b", long(0), long(1)}
	for b := range 256 {
		all = append(all, string([]byte{byte(b)}))
	}
	return all
}

// P17.11: GET behind SET, and behind all else that sets a string, is what was set.
func TestGetIsWhatWasSet(t *testing.T) {
	for _, key := range []string{"s", "late", "over", "list", "led", "q", ""} {
		for _, text := range someTexts() {
			s := begin()
			for _, args := range [][]string{
				{"set", key, text}, {"set", key, text, "px", "5"}, {"set", key, text, "keepttl"}, {"set", key, text, "xx"},
				{"getset", key, text}, {"setex", key, "1", text}, {"psetex", key, "1", text}, {"mset", key, "other", key, text},
			} {
				mustRun(t, s, 10, args...)
				if r := mustRun(t, s, 10, "get", key); r.Kind != api.ReplyBulk || r.Text != text {
					t.Errorf("%.40q: get is %.40s", args, resp.Show(r))
				}
			}
		}
	}
}

// P17.11: INCRBY n and then DECRBY n is as before, where none is refused; DECRBY and then INCRBY, too.
func TestThereAndBack(t *testing.T) {
	numbers := []int{math.MinInt, math.MinInt + 1, -9, -1, 0, 1, 2, 77, math.MaxInt - 1, math.MaxInt}
	r := rand.New(rand.NewSource(1))
	for range 30 {
		numbers = append(numbers, int(r.Uint64()), r.Intn(2000)-1000)
	}
	back := 0
	for _, n := range numbers {
		for _, by := range numbers {
			for _, way := range [][2]string{{"incrby", "decrby"}, {"decrby", "incrby"}} {
				s := space.New()
				s.Put("k", aText(num.Print(n)), 50)
				mustRun(t, s, 10, way[0], "k", num.Print(by))
				if s.Counter() == 1 || mustRun(t, s, 10, way[1], "k", num.Print(by)).Kind == api.ReplyError {
					continue
				}
				back++
				v, _ := s.Get("k", 10)
				if due, _ := s.Due("k", 10); v.Text != num.Print(n) || due != 50 {
					t.Errorf("%s of %d by %d and back: %q, deadline %d", way[0], n, by, v.Text, due)
				}
			}
		}
	}
	if back < 1000 {
		t.Errorf("only %d went there and back", back)
	}
}

// P17.11: MGET is GET of each key, but that it never is an error.
func TestSeveralAsOne(t *testing.T) {
	keys := []string{"s", "soon", "late", "over", "past", "e", "n", "m", "ones", "bits", "list", "hash", "sets", "rank", "led", "lost", "q", "", "s"}
	for _, now := range []int{math.MinInt, 0, 1, 9, 10, 11, 700, 1000, top, math.MaxInt} {
		s := begin()
		all := mustRun(t, s, now, append([]string{"mget"}, keys...)...)
		if all.Kind != api.ReplyArray || len(all.List) != len(keys) {
			t.Fatalf("mget at %d: %s", now, resp.Show(all))
		}
		for i, key := range keys {
			one := mustRun(t, s, now, "get", key)
			if one.Kind == api.ReplyError {
				one = api.Reply{Kind: api.ReplyNull}
			}
			if resp.Show(one) != resp.Show(all.List[i]) {
				t.Errorf("%q at %d: get %s, mget %s", key, now, resp.Show(one), resp.Show(all.List[i]))
			}
		}
	}
}

// P17.8, P17.11: GETBIT behind SETBIT is what was set, and SETBIT of what it told is as before, but for bytes 0 behind.
func TestBitsThereAndBack(t *testing.T) {
	for _, place := range []string{"0", "1", "7", "8", "15", "16", "39", "40", "41", "99"} {
		for _, bit := range []string{"0", "1"} {
			s := begin()
			was := mustRun(t, s, 10, "setbit", "s", place, bit)
			if r := mustRun(t, s, 10, "getbit", "s", place); num.Print(r.N) != bit {
				t.Errorf("getbit s %s: %s", place, resp.Show(r))
			}
			mustRun(t, s, 10, "setbit", "s", place, num.Print(was.N))
			if r := mustRun(t, s, 10, "getrange", "s", "0", "4"); r.Text != "hello" {
				t.Errorf("behind setbit s %s there and back: %s", place, resp.Show(r))
			}
		}
	}
}
