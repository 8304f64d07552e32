package listcmd

import (
	"testing"

	"covenant/api"
)

// 19.4: LSET puts another element in a place, counted from either end.
func TestSet(t *testing.T) {
	check(t, 10, []row{
		{"lset l 0 x", "OK", "put l list[x b c a b] 0"},
		{"lset l 2 x", "OK", "put l list[a b x a b] 0"},
		{"lset l 4 x", "OK", "put l list[a b c a x] 0"},
		{"lset l -1 x", "OK", "put l list[a b c a x] 0"},
		{"lset l -5 x", "OK", "put l list[x b c a b] 0"},
		{"lset l 0 a", "OK", "put l list[a b c a b] 0"},
		{"lset l 0 ''", "OK", "put l list[ b c a b] 0"},
		{"lset late 1 x", "OK", "put late list[p x] 1000"},
		{"lset soon -1 x", "OK", "put soon list[x] 11"},
	})
	fails(t, 10, api.TextIndex, "lset l 5 x", "lset l -6 x", "lset l 9223372036854775807 x", "lset l -9223372036854775808 x", "lset one 1 x", "lset late 2 x", "lset late -3 x")
	fails(t, 10, api.TextNoKey, "lset q 0 x", "lset q 9 x", "lset q -1 x", "lset over 0 x", "lset past 0 x", "lset lost 0 x", "lset '' 0 x")
	fails(t, 10, api.TextWrong, "lset string 0 x", "lset hash 9 x", "lset set 0 x", "lset zset -1 x", "lset text 0 x", "lset seta 0 x")
	for _, word := range noNumbers() {
		fails(t, 10, api.TextNumber, "lset l "+word+" x", "lset q "+word+" x", "lset string "+word+" x")
	}
}

// 19.4: LREM takes away the first, the last, or all of what is the same.
func TestRemove(t *testing.T) {
	check(t, 10, []row{
		{"lrem l 0 a", "(integer) 2", "put l list[b c b] 0"},
		{"lrem l 1 a", "(integer) 1", "put l list[b c a b] 0"},
		{"lrem l 2 a", "(integer) 2", "put l list[b c b] 0"},
		{"lrem l 3 a", "(integer) 2", "put l list[b c b] 0"},
		{"lrem l 9223372036854775807 b", "(integer) 2", "put l list[a c a] 0"},
		{"lrem l -1 a", "(integer) 1", "put l list[a b c b] 0"},
		{"lrem l -2 b", "(integer) 2", "put l list[a c a] 0"},
		{"lrem l -3 b", "(integer) 2", "put l list[a c a] 0"},
		{"lrem l -9223372036854775808 b", "(integer) 2", "put l list[a c a] 0"},
		{"lrem l -1 c", "(integer) 1", "put l list[a b a b] 0"},
		{"lrem l 0 x", "(integer) 0", ""}, {"lrem l 1 x", "(integer) 0", ""}, {"lrem l -1 x", "(integer) 0", ""}, {"lrem l 0 ''", "(integer) 0", ""}, {"lrem l 0 A", "(integer) 0", ""},
		{"lrem one 0 x", "(integer) 1", "drop one"},
		{"lrem one -5 x", "(integer) 1", "drop one"},
		{"lrem late 0 p", "(integer) 1", "put late list[q] 1000"},
		{"lrem late 0 x", "(integer) 0", ""},
		{"lrem soon 1 r", "(integer) 1", "drop soon"},
		{"lrem q 0 a", "(integer) 0", ""}, {"lrem q -1 a", "(integer) 0", ""}, {"lrem over 0 a", "(integer) 0", ""}, {"lrem past 1 a", "(integer) 0", ""}, {"lrem zed 1 a", "(integer) 0", ""},
	})
	for _, word := range noNumbers() {
		fails(t, 10, api.TextNumber, "lrem l "+word+" a", "lrem q "+word+" a", "lrem string "+word+" a")
	}
	fails(t, 10, api.TextWrong, "lrem string 0 a", "lrem hash 1 a", "lrem set 0 a", "lrem zset -1 a", "lrem text 0 a", "lrem seta 0 a")
}

// 19.4: LTRIM leaves a piece alone, and touches nothing where that is all.
func TestTrim(t *testing.T) {
	check(t, 10, []row{
		{"ltrim l 0 -1", "OK", ""}, {"ltrim l 0 4", "OK", ""}, {"ltrim l -5 -1", "OK", ""}, {"ltrim l -9 9", "OK", ""}, {"ltrim l -9223372036854775808 9223372036854775807", "OK", ""}, {"ltrim one 0 0", "OK", ""}, {"ltrim late 0 1", "OK", ""},
		{"ltrim l 0 0", "OK", "put l list[a] 0"},
		{"ltrim l 1 -2", "OK", "put l list[b c a] 0"},
		{"ltrim l 0 3", "OK", "put l list[a b c a] 0"},
		{"ltrim l 1 9223372036854775807", "OK", "put l list[b c a b] 0"},
		{"ltrim l -2 -1", "OK", "put l list[a b] 0"},
		{"ltrim l -9 -5", "OK", "put l list[a] 0"},
		{"ltrim l 5 9", "OK", "drop l"},
		{"ltrim l 3 2", "OK", "drop l"},
		{"ltrim l -1 0", "OK", "drop l"},
		{"ltrim l 0 -6", "OK", "drop l"},
		{"ltrim l 0 -9223372036854775808", "OK", "drop l"},
		{"ltrim l 9223372036854775807 -1", "OK", "drop l"},
		{"ltrim one 1 0", "OK", "drop one"},
		{"ltrim late 1 1", "OK", "put late list[q] 1000"},
		{"ltrim soon 1 1", "OK", "drop soon"},
		{"ltrim q 0 -1", "OK", ""}, {"ltrim q 5 9", "OK", ""}, {"ltrim q 1 0", "OK", ""}, {"ltrim over 0 0", "OK", ""}, {"ltrim over 5 9", "OK", ""}, {"ltrim past 1 0", "OK", ""}, {"ltrim lost 1 0", "OK", ""},
	})
	for _, word := range noNumbers() {
		fails(t, 10, api.TextNumber, "ltrim l "+word+" 1", "ltrim l 1 "+word, "ltrim l "+word+" "+word, "ltrim q 0 "+word, "ltrim string "+word+" 0")
	}
	fails(t, 10, api.TextWrong, "ltrim string 0 -1", "ltrim hash 0 0", "ltrim set 0 -1", "ltrim zset 1 0", "ltrim text 0 -1", "ltrim seta 5 9")
}

// 19.4: LINSERT lays an element beside the first that is the pivot.
func TestInsert(t *testing.T) {
	check(t, 10, []row{
		{"linsert l before c x", "(integer) 6", "put l list[a b x c a b] 0"},
		{"linsert l after c x", "(integer) 6", "put l list[a b c x a b] 0"},
		{"linsert l before a x", "(integer) 6", "put l list[x a b c a b] 0"},
		{"linsert l after b x", "(integer) 6", "put l list[a b x c a b] 0"},
		{"linsert l after a a", "(integer) 6", "put l list[a a b c a b] 0"},
		{"linsert l BEFORE c x", "(integer) 6", "put l list[a b x c a b] 0"},
		{"linsert l AFTER c x", "(integer) 6", "put l list[a b c x a b] 0"},
		{"linsert l aFtEr c ''", "(integer) 6", "put l list[a b c  a b] 0"},
		{"linsert late after q x", "(integer) 3", "put late list[p q x] 1000"},
		{"linsert soon before r x", "(integer) 2", "put soon list[x r] 11"},
		{"linsert l before x a", "(integer) -1", ""}, {"linsert l after x a", "(integer) -1", ""}, {"linsert l before '' a", "(integer) -1", ""}, {"linsert l before C x", "(integer) -1", ""}, {"linsert late after r x", "(integer) -1", ""},
		{"linsert q before a x", "(integer) 0", ""}, {"linsert q after a x", "(integer) 0", ""}, {"linsert over before a x", "(integer) 0", ""}, {"linsert past after a x", "(integer) 0", ""}, {"linsert zed before a x", "(integer) 0", ""},
	})
	for _, side := range []string{"x", "''", "befor", "beforee", "afte", "afters", "left", "right", "0", "behind", "before\x00"} {
		fails(t, 10, api.TextSyntax, "linsert l "+side+" c x", "linsert q "+side+" c x", "linsert string "+side+" c x", "linsert l "+side+" x x")
	}
	fails(t, 10, api.TextWrong, "linsert string before a x", "linsert hash after a x", "linsert set before a x", "linsert zset after x x", "linsert text before a x", "linsert seta after a x")
}
