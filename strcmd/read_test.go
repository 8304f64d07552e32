package strcmd

import (
	"testing"

	"covenant/api"
)

// P17.2: GET tells the string that is seen; null, if there is none.
func TestGet(t *testing.T) {
	check(t, 10, []row{
		{"get s", `"hello"`, ""},
		{"get soon", `"world"`, ""},
		{"get late", `"hi"`, ""},
		{"get e", `""`, ""},
		{"get bits", `"\x00a\x80"`, ""},
		{"get over", "(nil)", ""},
		{"get past", "(nil)", ""},
		{"get lost", "(nil)", ""},
		{"get q", "(nil)", ""},
		{"get ''", "(nil)", ""},
	})
	check(t, 9, []row{{"get over", `"gone"`, ""}, {"get past", "(nil)", ""}})
	check(t, 11, []row{{"get soon", "(nil)", ""}, {"get late", `"hi"`, ""}})
	fails(t, 10, api.TextWrong, "get list", "get hash", "get sets", "get rank", "get led")
}

// P17.2: STRLEN tells the string's length.
func TestLength(t *testing.T) {
	check(t, 10, []row{
		{"strlen s", "(integer) 5", ""},
		{"strlen soon", "(integer) 5", ""},
		{"strlen e", "(integer) 0", ""},
		{"strlen bits", "(integer) 3", ""},
		{"strlen over", "(integer) 0", ""},
		{"strlen lost", "(integer) 0", ""},
		{"strlen q", "(integer) 0", ""},
	})
	fails(t, 10, api.TextWrong, "strlen list", "strlen hash", "strlen sets", "strlen rank", "strlen led")
}

// P17.2: GETRANGE tells the piece that blob.Range tells, of an absent key the empty one.
func TestGetRange(t *testing.T) {
	check(t, 10, []row{
		{"getrange s 1 3", `"ell"`, ""},
		{"getrange s 0 -1", `"hello"`, ""},
		{"getrange s -3 -1", `"llo"`, ""},
		{"getrange s -1 -1", `"o"`, ""},
		{"getrange s -99 0", `"h"`, ""},
		{"getrange s 3 1", `""`, ""},
		{"getrange s 0 -99", `""`, ""},
		{"getrange s 2 99", `"llo"`, ""},
		{"getrange s 5 5", `""`, ""},
		{"getrange s 4 4", `"o"`, ""},
		{"getrange s -9223372036854775808 9223372036854775807", `"hello"`, ""},
		{"getrange s 9223372036854775807 -9223372036854775808", `""`, ""},
		{"getrange late 1 1", `"i"`, ""},
		{"getrange e 0 -1", `""`, ""},
		{"getrange q 0 -1", `""`, ""},
		{"getrange over 0 -1", `""`, ""},
	})
	fails(t, 10, api.TextNumber, "getrange s x 1", "getrange s 1 x", "getrange s '' 1", "getrange s 1 ''", "getrange s +1 1", "getrange s 01 1", "getrange s 1 -0",
		"getrange s 1 9223372036854775808", "getrange s -9223372036854775809 1", "getrange q x 1", "getrange q 1 x", "getrange list x 1", "getrange list 1 x")
	fails(t, 10, api.TextWrong, "getrange list 0 1", "getrange hash 0 1", "getrange sets 0 1", "getrange rank 0 1")
}

// P17.2: MGET tells of each key what GET tells, but null of another kind.
func TestGetSeveral(t *testing.T) {
	check(t, 10, []row{
		{"mget s", `["hello"]`, ""},
		{"mget q", `[(nil)]`, ""},
		{"mget list", `[(nil)]`, ""},
		{"mget s q list late hash over sets soon rank lost led e s", `["hello", (nil), (nil), "hi", (nil), (nil), (nil), "world", (nil), (nil), (nil), "", "hello"]`, ""},
		{"mget q q", `[(nil), (nil)]`, ""},
	})
}
