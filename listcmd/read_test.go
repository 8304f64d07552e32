package listcmd

import (
	"testing"

	"covenant/api"
)

// 19.2: LLEN tells the length.
func TestLength(t *testing.T) {
	check(t, 10, []row{
		{"llen l", "(integer) 5", ""}, {"llen one", "(integer) 1", ""}, {"llen late", "(integer) 2", ""}, {"llen soon", "(integer) 1", ""},
		{"llen q", "(integer) 0", ""}, {"llen ''", "(integer) 0", ""}, {"llen over", "(integer) 0", ""}, {"llen past", "(integer) 0", ""}, {"llen lost", "(integer) 0", ""}, {"llen zed", "(integer) 0", ""},
	})
	check(t, 11, []row{{"llen soon", "(integer) 0", ""}})
	check(t, 9, []row{{"llen over", "(integer) 2", ""}, {"llen lost", "(integer) 0", ""}})
	fails(t, 10, api.TextWrong, "llen string", "llen hash", "llen set", "llen zset", "llen text", "llen seta")
	fails(t, 9, api.TextWrong, "llen zed")
}

// noNumbers is words that are no numbers.
func noNumbers() []string {
	return []string{"x", "''", "01", "+1", "-0", "1.0", "9223372036854775808", "-9223372036854775809", "0x1", "1\x00"}
}

// 19.2: LRANGE tells the piece between two places.
func TestPiece(t *testing.T) {
	all := `["a", "b", "c", "a", "b"]`
	check(t, 10, []row{
		{"lrange l 0 -1", all, ""}, {"lrange l 0 4", all, ""}, {"lrange l -5 4", all, ""}, {"lrange l -9 9", all, ""}, {"lrange l -9223372036854775808 9223372036854775807", all, ""},
		{"lrange l 0 0", `["a"]`, ""}, {"lrange l 1 -2", `["b", "c", "a"]`, ""}, {"lrange l 2 2", `["c"]`, ""}, {"lrange l -2 -1", `["a", "b"]`, ""}, {"lrange l 4 9", `["b"]`, ""}, {"lrange l -9 -5", `["a"]`, ""},
		{"lrange l 3 2", "[]", ""}, {"lrange l 5 9", "[]", ""}, {"lrange l -1 0", "[]", ""}, {"lrange l 0 -6", "[]", ""}, {"lrange l 0 -9223372036854775808", "[]", ""}, {"lrange l 9223372036854775807 -1", "[]", ""}, {"lrange l 9223372036854775807 9223372036854775807", "[]", ""},
		{"lrange late 0 -1", `["p", "q"]`, ""}, {"lrange one 0 0", `["x"]`, ""},
		{"lrange q 0 -1", "[]", ""}, {"lrange over 0 -1", "[]", ""}, {"lrange past 0 0", "[]", ""}, {"lrange lost 0 -1", "[]", ""},
	})
	for _, word := range noNumbers() {
		fails(t, 10, api.TextNumber, "lrange l "+word+" 1", "lrange l 1 "+word, "lrange l "+word+" "+word, "lrange q 0 "+word, "lrange string "+word+" 0")
	}
	fails(t, 10, api.TextWrong, "lrange string 0 -1", "lrange hash 0 0", "lrange set 0 -1", "lrange zset 1 0", "lrange text 0 -1")
}

// 19.2: LINDEX tells what stands at a place.
func TestElement(t *testing.T) {
	check(t, 10, []row{
		{"lindex l 0", `"a"`, ""}, {"lindex l 2", `"c"`, ""}, {"lindex l 4", `"b"`, ""}, {"lindex l -1", `"b"`, ""}, {"lindex l -3", `"c"`, ""}, {"lindex l -5", `"a"`, ""},
		{"lindex l 5", "(nil)", ""}, {"lindex l -6", "(nil)", ""}, {"lindex l 9223372036854775807", "(nil)", ""}, {"lindex l -9223372036854775808", "(nil)", ""},
		{"lindex late 1", `"q"`, ""}, {"lindex one -1", `"x"`, ""},
		{"lindex q 0", "(nil)", ""}, {"lindex q -1", "(nil)", ""}, {"lindex over 0", "(nil)", ""}, {"lindex past 0", "(nil)", ""}, {"lindex zed 0", "(nil)", ""},
	})
	for _, word := range noNumbers() {
		fails(t, 10, api.TextNumber, "lindex l "+word, "lindex q "+word, "lindex string "+word)
	}
	fails(t, 10, api.TextWrong, "lindex string 0", "lindex hash 0", "lindex set 9", "lindex zset -1", "lindex seta 0")
}

// 19.6: LPOS tells the first place of what is sought, or of another rank.
func TestPlaces(t *testing.T) {
	check(t, 10, []row{
		{"lpos l a", "(integer) 0", ""}, {"lpos l b", "(integer) 1", ""}, {"lpos l c", "(integer) 2", ""}, {"lpos l x", "(nil)", ""}, {"lpos l ''", "(nil)", ""}, {"lpos l A", "(nil)", ""}, {"lpos late q", "(integer) 1", ""},
		{"lpos q a", "(nil)", ""}, {"lpos over a", "(nil)", ""}, {"lpos past a", "(nil)", ""}, {"lpos lost a", "(nil)", ""},
		{"lpos l a rank 1", "(integer) 0", ""}, {"lpos l a rank 2", "(integer) 3", ""}, {"lpos l a rank 3", "(nil)", ""}, {"lpos l a rank -1", "(integer) 3", ""}, {"lpos l a rank -2", "(integer) 0", ""}, {"lpos l a rank -3", "(nil)", ""},
		{"lpos l a rank 9223372036854775807", "(nil)", ""}, {"lpos l a rank -9223372036854775808", "(nil)", ""}, {"lpos l a rank -9223372036854775807", "(nil)", ""},
		{"lpos l b maxlen 0", "(integer) 1", ""}, {"lpos l b maxlen 1", "(nil)", ""}, {"lpos l b maxlen 2", "(integer) 1", ""}, {"lpos l b maxlen 9223372036854775807", "(integer) 1", ""},
		{"lpos l b rank -1 maxlen 1", "(integer) 4", ""}, {"lpos l a maxlen 1 rank -1", "(nil)", ""}, {"lpos l a RANK 2 MaxLen 3", "(nil)", ""}, {"lpos l a Rank 2 MAXLEN 4", "(integer) 3", ""},
	})
	fails(t, 10, api.TextWrong, "lpos string a", "lpos hash a", "lpos set a", "lpos zset a", "lpos text a", "lpos seta a rank 1 count 0 maxlen 0")
}

// 19.6: with COUNT LPOS tells an array, of all places where it is 0.
func TestPlacesInAnArray(t *testing.T) {
	check(t, 10, []row{
		{"lpos l a count 0", "[(integer) 0, (integer) 3]", ""}, {"lpos l a count 1", "[(integer) 0]", ""}, {"lpos l a count 2", "[(integer) 0, (integer) 3]", ""}, {"lpos l a count 9", "[(integer) 0, (integer) 3]", ""}, {"lpos l a COUNT 9223372036854775807", "[(integer) 0, (integer) 3]", ""},
		{"lpos l x count 0", "[]", ""}, {"lpos l x count 1", "[]", ""}, {"lpos q a count 0", "[]", ""}, {"lpos over a count 1", "[]", ""}, {"lpos zed a count 2", "[]", ""},
		{"lpos l a count 0 rank -1", "[(integer) 3, (integer) 0]", ""}, {"lpos l a rank -1 count 1", "[(integer) 3]", ""}, {"lpos l a rank 2 count 0", "[(integer) 3]", ""}, {"lpos l a count 0 rank 3", "[]", ""},
		{"lpos l a count 0 maxlen 3", "[(integer) 0]", ""}, {"lpos l a maxlen 3 count 0", "[(integer) 0]", ""}, {"lpos l a count 0 maxlen 0", "[(integer) 0, (integer) 3]", ""},
	})
	for _, order := range []string{"rank -1 count 0 maxlen 4", "rank -1 maxlen 4 count 0", "count 0 rank -1 maxlen 4", "count 0 maxlen 4 rank -1", "maxlen 4 rank -1 count 0", "MAXLEN 4 COUNT 0 RANK -1"} {
		check(t, 10, []row{{"lpos l b " + order, "[(integer) 4, (integer) 1]", ""}, {"lpos l a " + order, "[(integer) 3]", ""}, {"lpos q a " + order, "[]", ""}})
	}
}

// 19.6: each option stands once at most, with a number that may be.
func TestPlacesOptions(t *testing.T) {
	fails(t, 10, api.TextSyntax,
		"lpos l a foo", "lpos l a ''", "lpos l a 1", "lpos l a foo 1", "lpos l a rankk 1", "lpos l a ran 1", "lpos l a rank", "lpos l a count", "lpos l a maxlen", "lpos l a rank 1 count", "lpos l a count 0 foo", "lpos l a count 0 foo 1", "lpos l a maxlen 0 rank",
		"lpos l a rank 1 rank 1", "lpos l a rank 1 RANK 2", "lpos l a count 0 count 0", "lpos l a COUNT 0 Count 1", "lpos l a maxlen 0 maxlen 0", "lpos l a rank 1 count 1 rank 1", "lpos l a count 0 rank 1 maxlen 0 count 0", "lpos l a maxlen 1 rank 1 count 1 maxlen 1",
		"lpos l a rank 1 rank x", "lpos l a rank 1 rank", "lpos l a count 0 count x", "lpos l a maxlen 0 maxlen -1", "lpos q a foo", "lpos string a foo 1", "lpos string a rank", "lpos l a withscores", "lpos l a left 1", "lpos l a 0 rank",
	)
	fails(t, 10, api.TextNumber,
		"lpos l a rank 0", "lpos l a count -1", "lpos l a maxlen -1", "lpos l a count -9223372036854775808", "lpos l a maxlen -9223372036854775808", "lpos q a rank 0", "lpos string a count -1",
		"lpos l a rank x foo", "lpos l a rank 0 rank 0", "lpos l a count -1 foo", "lpos l a rank count 1", "lpos l a rank 0 count", "lpos l a count 0 maxlen x rank", "lpos l a maxlen rank",
	)
	for _, word := range noNumbers() {
		fails(t, 10, api.TextNumber, "lpos l a rank "+word, "lpos l a count "+word, "lpos l a maxlen "+word, "lpos q a maxlen 1 count "+word+" rank 1")
	}
}
