package table

import (
	"slices"
	"strings"
	"testing"

	"covenant/api"
)

// 15.2: the texts, byte for byte.
func TestCheckTexts(t *testing.T) {
	for _, x := range []struct {
		args []string
		want string
	}{
		{nil, "ERR unknown command "},
		{[]string{}, "ERR unknown command "},
		{[]string{""}, "ERR unknown command "},
		{[]string{"", "a"}, "ERR unknown command "},
		{[]string{"foo\n"}, "ERR unknown command foo?"},
		{[]string{"FOO", "a"}, "ERR unknown command FOO"},
		{[]string{"Foo Bar"}, "ERR unknown command Foo Bar"},
		{[]string{"ge"}, "ERR unknown command ge"},
		{[]string{"gett", "a"}, "ERR unknown command gett"},
		{[]string{" get", "a"}, "ERR unknown command  get"},
		{[]string{"foo", "\r\n"}, "ERR unknown command foo"},
		{[]string{"Get"}, "ERR wrong number of arguments: get"},
		{[]string{"GET", "a", "b"}, "ERR wrong number of arguments: get"},
		{[]string{"mSetNX", "a"}, "ERR wrong number of arguments: msetnx"},
		{[]string{"ZREMRANGEBYSCORE"}, "ERR wrong number of arguments: zremrangebyscore"},
		{[]string{"exec", "a"}, "ERR wrong number of arguments: exec"},
		{[]string{"gEt", ""}, ""},
		{[]string{"ping"}, ""},
		{[]string{"PING", "a", "b", "c"}, ""},
		{[]string{"watch", "a", "b"}, ""},
		{[]string{"mset", "a", "1", "b"}, ""},
	} {
		if got := Check(x.args); got != x.want {
			t.Errorf("Check(%q): %q, not %q", x.args, got, x.want)
		}
	}
}

// 15.2: of a name that is none the first 32 bytes are told, as they came.
func TestCheckLongNames(t *testing.T) {
	const digits = "0123456789ABCDEFGHIJKLMNOPqrstuv"
	for _, x := range [][2]string{
		{digits[:31], digits[:31]},
		{digits, digits},
		{digits + "w", digits},
		{digits + "\n", digits},
		{digits[:31] + "\nx", digits[:31] + "?"},
		{digits[:31] + "\u00e4", digits[:31] + "?"},
		{digits + digits, digits},
		{strings.Repeat("\xff", 33), strings.Repeat("?", 32)},
		{strings.Repeat("G", 1<<20), strings.Repeat("G", 32)},
		{"get" + strings.Repeat(" ", 40), "get" + strings.Repeat(" ", 29)},
	} {
		if got := Check([]string{x[0], "a"}); got != "ERR unknown command "+x[1] {
			t.Errorf("Check of a name of %d bytes: %q, not %q behind the text", len(x[0]), got, x[1])
		}
	}
}

// 15.2: each byte of a name that is none, at its beginning, within it, and as its last byte that is told.
func TestCheckBytes(t *testing.T) {
	for b := range 256 {
		came := string([]byte{byte(b)})
		told := came
		if b < 32 || b > 126 {
			told = "?"
		}
		long := strings.Repeat("x", 31)
		for _, x := range [][2]string{{came + "!", told + "!"}, {"A" + came + "b", "A" + told + "b"}, {long + came, long + told}, {long + came + came, long + told}} {
			if got := Check([]string{x[0]}); got != api.TextUnknown+x[1] {
				t.Errorf("Check(%q): %q", x[0], got)
			}
		}
	}
}

// 15.2: of every row the words about its arity, and many of them.
func TestCheckArity(t *testing.T) {
	for _, row := range chapter(t) {
		few := least(row)
		for _, words := range []int{1, 2, 3, 4, 5, 6, 7, few - 1, few, few + 1, few + 2, 100} {
			if words < 1 {
				continue
			}
			fit := words == few || row.Arity < 0 && words > few
			for _, name := range spellings(row.Name) {
				want := ""
				if !fit {
					want = api.TextArity + row.Name
				}
				if got := Check(request(name, words)); got != want {
					t.Errorf("Check of %s with %d words: %q, not %q", name, words, got, want)
				}
			}
		}
	}
}

// 15.2: what the words behind the name are is not looked at.
func TestCheckWords(t *testing.T) {
	for _, row := range chapter(t) {
		for _, word := range []string{"", "get", "\x00\xff\r\n", strings.Repeat("x", 1000)} {
			args := append([]string{row.Name}, slices.Repeat([]string{word}, least(row)-1)...)
			if got := Check(args); got != "" {
				t.Errorf("Check(%q): %q", args, got)
			}
		}
	}
}
