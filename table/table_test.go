package table

import (
	"slices"
	"strings"
	"testing"

	"covenant/api"
)

// 15.1: A to Z, and no byte beside them.
func TestLower(t *testing.T) {
	for name, want := range map[string]string{
		"":                               "",
		"get":                            "get",
		"GET":                            "get",
		"gEt":                            "get",
		"ABCDEFGHIJKLMNOPQRSTUVWXYZ":     "abcdefghijklmnopqrstuvwxyz",
		"abcdefghijklmnopqrstuvwxyz":     "abcdefghijklmnopqrstuvwxyz",
		"@A[Z`a{z":                       "@a[z`a{z",
		"0 9\x00\x1f\x7f\r\n":            "0 9\x00\x1f\x7f\r\n",
		"\x80\xc1\xda\xe1\xff":           "\x80\xc1\xda\xe1\xff",
		"\u00c4\u00d6\u0130\u212a\u03a3": "\u00c4\u00d6\u0130\u212a\u03a3",
		"A\xc3B\xffC":                    "a\xc3b\xffc",
	} {
		if got := Lower(name); got != want {
			t.Errorf("Lower(%q): %q, not %q", name, got, want)
		}
	}
}

// 15.1: every byte, alone and between two others.
func TestLowerBytes(t *testing.T) {
	for b := range 256 {
		want := b
		if b >= 65 && b <= 90 {
			want = b + 32
		}
		one, small := string([]byte{byte(b)}), string([]byte{byte(want)})
		if got := Lower(one); got != small {
			t.Errorf("Lower of the byte %d: %q", b, got)
		}
		if got := Lower("X" + one + "y"); got != "x"+small+"y" {
			t.Errorf("Lower of the byte %d between two letters: %q", b, got)
		}
	}
}

// 15.1: every name in all its letters leads to its row, each cell as the chapter has it.
func TestFind(t *testing.T) {
	for _, want := range chapter(t) {
		for _, name := range spellings(want.Name) {
			got, ok := Find(name)
			if !ok {
				t.Errorf("Find(%q): none", name)
			}
			if got != want {
				t.Errorf("Find(%q): %+v, not %+v", name, got, want)
			}
		}
	}
}

// 15.1: some rows of each form, cell by cell, read by eye.
func TestFindCells(t *testing.T) {
	for _, want := range []api.Spec{
		{Name: "get", Arity: 2, First: 1, Last: 1, Step: 1},
		{Name: "append", Arity: 3, Write: true, First: 1, Last: 1, Step: 1},
		{Name: "bitop", Arity: -4, Write: true, First: 2, Last: -1, Step: 1},
		{Name: "msetnx", Arity: -3, Write: true, First: 1, Last: -1, Step: 2},
		{Name: "copy", Arity: -3, Write: true, First: 1, Last: 2, Step: 1},
		{Name: "exists", Arity: -2, First: 1, Last: -1, Step: 1},
		{Name: "flushall", Arity: 1, Write: true},
		{Name: "dbsize", Arity: 1},
		{Name: "ping", Arity: -1},
		{Name: "exec", Arity: 1, Control: true},
		{Name: "watch", Arity: -2, Control: true, First: 1, Last: -1, Step: 1},
		{Name: "lmove", Arity: 5, Write: true, First: 1, Last: 2, Step: 1},
		{Name: "zremrangebyscore", Arity: 4, Write: true, First: 1, Last: 1, Step: 1},
	} {
		if got, ok := Find(want.Name); !ok || got != want {
			t.Errorf("Find(%q): %+v, %v", want.Name, got, ok)
		}
	}
}

// alike says whether a name is one in small letters, but that some of its letters are great.
func alike(name, small string) bool {
	if len(name) != len(small) {
		return false
	}
	for i := range len(name) {
		if name[i] != small[i] && name[i] != small[i]-32 {
			return false
		}
	}
	return true
}

// stands says whether a name, in whatever letters, is one of the chapter's, whose names are small letters alone.
func stands(rows []api.Spec, name string) bool {
	return slices.ContainsFunc(rows, func(row api.Spec) bool { return alike(name, row.Name) })
}

// 15.1: what is nearly a name is none, unless it is another one.
func TestFindNone(t *testing.T) {
	rows := chapter(t)
	names := []string{"", " ", "\x00", "foo", "hello", "config", "get set", "zzz", strings.Repeat("get", 1000), "\u212aeys", "\u017fet"}
	for _, row := range rows {
		name := row.Name
		for i := range name {
			names = append(names, name[:i], great(name[:i]), name[i+1:], name[:i]+name[i+1:])
			for _, bit := range []byte{1, 64, 128} {
				b := []byte(name)
				b[i] ^= bit
				names = append(names, string(b))
			}
		}
		for b := range 256 {
			more := string([]byte{byte(b)})
			names = append(names, name+more, more+name)
		}
		names = append(names, name+name)
	}
	for _, name := range names {
		if stands(rows, name) {
			continue
		}
		if got, ok := Find(name); ok || got != (api.Spec{}) {
			t.Errorf("Find(%q): %+v, %v", name, got, ok)
		}
	}
}

// 15.1: all rows of the chapter, each once, by rising names, and each the one that Find gives.
func TestAll(t *testing.T) {
	all := All()
	if len(all) != 118 {
		t.Errorf("All: %d rows", len(all))
	}
	for i, row := range all {
		if i > 0 && all[i-1].Name >= row.Name {
			t.Errorf("All: %q behind %q", row.Name, all[i-1].Name)
		}
		if found, ok := Find(row.Name); !ok || found != row {
			t.Errorf("Find(%q): %+v, %v, but in All %+v", row.Name, found, ok, row)
		}
	}
	for _, row := range chapter(t) {
		if !slices.Contains(all, row) {
			t.Errorf("All: %+v is wanting", row)
		}
	}
}

// 15.1: the rows fit one another, so that Keys finds each key among the words that Check lets pass.
func TestRows(t *testing.T) {
	for _, row := range All() {
		if row.Name == "" || row.Name != Lower(row.Name) {
			t.Errorf("%+v: a name that nobody finds", row)
		}
		if row.Arity == 0 || row.Write && row.Control {
			t.Errorf("%+v: no row", row)
		}
		if row.First == 0 && (row.Last != 0 || row.Step != 0) {
			t.Errorf("%+v: keys without a first one", row)
		}
		if row.First != 0 && (row.Step < 1 || row.First < 1 || row.Last >= least(row) || row.First >= least(row)) {
			t.Errorf("%+v: keys outside of the words", row)
		}
	}
}
