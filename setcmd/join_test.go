package setcmd

import (
	"strings"
	"testing"

	"covenant/api"
	"covenant/resp"
)

// 21.5: SINTER tells what stands in the sets at all keys.
func TestInter(t *testing.T) {
	check(t, 10, []row{
		{"sinter s", `["a", "b", "c"]`, ""}, {"sinter s t", `["b", "c"]`, ""}, {"SINTER t s", `["b", "c"]`, ""}, {"sinter s t late", `["b"]`, ""}, {"sinter s s", `["a", "b", "c"]`, ""}, {"sinter s t s t", `["b", "c"]`, ""}, {"sinter s one", "[]", ""}, {"sinter s t one", "[]", ""},
		{"sinter q", "[]", ""}, {"sinter s q", "[]", ""}, {"sinter q s", "[]", ""}, {"sinter q q", "[]", ""}, {"sinter s over", "[]", ""}, {"sinter past s", "[]", ""}, {"sinter s lost", "[]", ""}, {"sinter ''", "[]", ""},
	})
	check(t, 9, []row{{"sinter s over", `["a", "b"]`, ""}})
}

// 21.5: SUNION tells what stands in the set at one key at least.
func TestUnion(t *testing.T) {
	check(t, 10, []row{
		{"sunion s", `["a", "b", "c"]`, ""}, {"sunion s t", `["a", "b", "c", "d"]`, ""}, {"SUNION t s", `["a", "b", "c", "d"]`, ""}, {"sunion one s late", `["a", "b", "c", "p", "x"]`, ""}, {"sunion s s", `["a", "b", "c"]`, ""}, {"sunion t one t", `["b", "c", "d", "x"]`, ""},
		{"sunion q", "[]", ""}, {"sunion s q", `["a", "b", "c"]`, ""}, {"sunion q s", `["a", "b", "c"]`, ""}, {"sunion q q", "[]", ""}, {"sunion over past", "[]", ""}, {"sunion one over lost q", `["x"]`, ""}, {"sunion ''", "[]", ""},
	})
	check(t, 9, []row{{"sunion one over", `["a", "b", "x"]`, ""}})
}

// 21.5: SDIFF tells what stands in the set at the first key alone.
func TestDiff(t *testing.T) {
	check(t, 10, []row{
		{"sdiff s", `["a", "b", "c"]`, ""}, {"sdiff s t", `["a"]`, ""}, {"SDIFF t s", `["d"]`, ""}, {"sdiff s late", `["a", "c"]`, ""}, {"sdiff s late one", `["a", "c"]`, ""}, {"sdiff t s late", `["d"]`, ""}, {"sdiff s s", "[]", ""}, {"sdiff s t t", `["a"]`, ""}, {"sdiff s t s", "[]", ""},
		{"sdiff q", "[]", ""}, {"sdiff s q", `["a", "b", "c"]`, ""}, {"sdiff q s", "[]", ""}, {"sdiff s over", `["a", "b", "c"]`, ""}, {"sdiff over s", "[]", ""}, {"sdiff s lost past", `["a", "b", "c"]`, ""}, {"sdiff ''", "[]", ""},
	})
	check(t, 9, []row{{"sdiff s over", `["c"]`, ""}})
}

// 21.5: SINTERSTORE, SUNIONSTORE and SDIFFSTORE put that at the first key, afresh, and tell how many elements it has.
func TestStore(t *testing.T) {
	check(t, 10, []row{
		{"sinterstore q s t", "(integer) 2", "put q set[b c] 0"}, {"sunionstore q s t", "(integer) 4", "put q set[a b c d] 0"}, {"sdiffstore q s t", "(integer) 1", "put q set[a] 0"}, {"sdiffstore q t s", "(integer) 1", "put q set[d] 0"},
		{"sinterstore q s", "(integer) 3", "put q set[a b c] 0"}, {"sunionstore q late", "(integer) 2", "put q set[b p] 0"}, {"sdiffstore q soon", "(integer) 1", "put q set[r] 0"},
		{"sinterstore q s t late", "(integer) 1", "put q set[b] 0"}, {"sunionstore q one q late", "(integer) 3", "put q set[b p x] 0"}, {"sdiffstore q s late one", "(integer) 2", "put q set[a c] 0"},
		{"sinterstore q s s", "(integer) 3", "put q set[a b c] 0"}, {"sunionstore q q s over", "(integer) 3", "put q set[a b c] 0"}, {"sdiffstore q s past lost", "(integer) 3", "put q set[a b c] 0"}, {"SUNIONSTORE '' one", "(integer) 1", "put  set[x] 0"},
		// The first key may be one of the others; it is put also where it held just that.
		{"sunionstore s s t", "(integer) 4", "put s set[a b c d] 0"}, {"sinterstore s s t", "(integer) 2", "put s set[b c] 0"}, {"sdiffstore s s t", "(integer) 1", "put s set[a] 0"}, {"sinterstore t s t", "(integer) 2", "put t set[b c] 0"}, {"sdiffstore t s t", "(integer) 1", "put t set[a] 0"},
		{"sinterstore s s", "(integer) 3", "put s set[a b c] 0"}, {"sunionstore s s q", "(integer) 3", "put s set[a b c] 0"}, {"sdiffstore s s q", "(integer) 3", "put s set[a b c] 0"},
		// Its deadline is gone.
		{"sunionstore late s", "(integer) 3", "put late set[a b c] 0"}, {"sinterstore late late", "(integer) 2", "put late set[b p] 0"}, {"sdiffstore soon late s", "(integer) 1", "put soon set[p] 0"}, {"sunionstore text one", "(integer) 1", "put text set[x] 0"},
		{"sunionstore over one", "(integer) 1", "put over set[x] 0"}, {"sunionstore over over one", "(integer) 1", "put over set[x] 0"}, {"sdiffstore past s t", "(integer) 1", "put past set[a] 0"}, {"sinterstore zed s t", "(integer) 2", "put zed set[b c] 0"},
	})
}

// 21.5: where there is nothing to store the first key is dropped, whatever it holds, if it is there.
func TestStoreNothing(t *testing.T) {
	for _, key := range append(wrongKeys(), "s", "late", "soon") {
		check(t, 10, []row{
			{"sinterstore " + key + " one q", "(integer) 0", "drop " + key}, {"sinterstore " + key + " one t", "(integer) 0", "drop " + key}, {"sunionstore " + key + " q", "(integer) 0", "drop " + key}, {"sunionstore " + key + " over past lost", "(integer) 0", "drop " + key}, {"sdiffstore " + key + " t t", "(integer) 0", "drop " + key}, {"sdiffstore " + key + " q t", "(integer) 0", "drop " + key},
		})
	}
	for _, key := range []string{"q", "''", "over", "past", "lost", "zed"} {
		check(t, 10, []row{
			{"sinterstore " + key + " one q", "(integer) 0", ""}, {"sinterstore " + key + " " + key, "(integer) 0", ""}, {"sunionstore " + key + " q", "(integer) 0", ""}, {"sunionstore " + key + " over " + key, "(integer) 0", ""}, {"sdiffstore " + key + " t t", "(integer) 0", ""}, {"sdiffstore " + key + " " + key + " s", "(integer) 0", ""},
		})
	}
}

// 21.5: all the keys that are joined hold sets, or are absent; what the first key of a stored form holds is not looked at.
func TestJoinWrong(t *testing.T) {
	for _, name := range []string{"sinter", "sunion", "SDIFF", "sinterstore q", "sunionstore s", "SDIFFSTORE late", "sinterstore string", "sunionstore list", "sdiffstore over", "sinterstore K", "sunionstore K", "sdiffstore K"} {
		for _, keys := range []string{"K", "K K", "s K", "K s", "q K", "K q", "s t K", "s K t", "over K", "K past", "q q q K"} {
			refusedKeys(t, name+" "+keys)
		}
	}
	for _, key := range wrongKeys() {
		check(t, 10, []row{{"sinterstore " + key + " s t", "(integer) 2", "put " + key + " set[b c] 0"}, {"sunionstore " + key + " one one", "(integer) 1", "put " + key + " set[x] 0"}, {"sdiffstore " + key + " s t", "(integer) 1", "put " + key + " set[a] 0"}})
	}
}

// 21.5: many keys are joined at once.
func TestJoinMany(t *testing.T) {
	s := begin()
	var keys []string
	for i := range 100 {
		key := "k" + strings.Repeat("x", i)
		mustRun(t, s, 10, "sadd", key, "all", string([]byte{byte('a' + i%26), byte('0' + i/26)}))
		keys = append(keys, key)
	}
	for name, want := range map[string]int{"sinter": 1, "sunion": 101, "sdiff": 1} {
		told := bulksOf(t, mustRun(t, s, 10, append([]string{name}, keys...)...))
		stored := mustRun(t, s, 10, append([]string{name + "store", "d"}, keys...)...)
		if len(told) != want || resp.Show(stored) != resp.Show(api.Reply{Kind: api.ReplyInt, N: want}) {
			t.Errorf("%s: %q, %s", name, told, resp.Show(stored))
		}
	}
}
