package keycmd

import (
	"testing"

	"covenant/api"
	"covenant/resp"
)

// P18.3: RENAME gives the other key value and deadline, whatever it held, and then drops the first.
func TestRename(t *testing.T) {
	check(t, 10, []row{
		{"rename a q", "OK", `put q "1" 0, drop a`},
		{"rename a ''", "OK", `put  "1" 0, drop a`},
		{"rename e q", "OK", `put q "" 0, drop e`},
		{"rename late q", "OK", `put q "hi" 1000, drop late`},
		{"rename a late", "OK", `put late "1" 0, drop a`},
		{"rename late a", "OK", `put a "hi" 1000, drop late`},
		{"rename soon late", "OK", `put late "world" 11, drop soon`},
		{"rename a over", "OK", `put over "1" 0, drop a`},
		{"rename late past", "OK", `put past "hi" 1000, drop late`},
		{"RENAME list hash", "OK", `put hash list[1 a 1] 0, drop list`},
		{"rename led a", "OK", `put a list[1 a 1] 700, drop led`},
		{"rename hash q", "OK", `put q hash[{1 2}] 0, drop hash`},
		{"rename set zset", "OK", `put zset set[1 2] 0, drop set`},
		{"rename zset lost", "OK", `put lost zset[{1 -2}] 0, drop zset`},
		// A key is renamed to itself without a touch.
		{"rename a a", "OK", ""},
		{"rename late late", "OK", ""},
		{"rename led led", "OK", ""},
	})
	fails(t, 10, api.TextNoKey, "rename q a", "rename q q", "rename q r", "rename over a", "rename over over", "rename past q", "rename lost zed", "rename '' a")
}

// P18.3: RENAMENX does so only if nothing is there under the other name.
func TestRenameNew(t *testing.T) {
	check(t, 10, []row{
		{"renamenx a q", "(integer) 1", `put q "1" 0, drop a`},
		{"renamenx late q", "(integer) 1", `put q "hi" 1000, drop late`},
		{"renamenx a over", "(integer) 1", `put over "1" 0, drop a`},
		{"renamenx led lost", "(integer) 1", `put lost list[1 a 1] 700, drop led`},
		{"RENAMENX zset ''", "(integer) 1", `put  zset[{1 -2}] 0, drop zset`},
		{"renamenx a late", "(integer) 0", ""},
		{"renamenx a soon", "(integer) 0", ""},
		{"renamenx a e", "(integer) 0", ""},
		{"renamenx a list", "(integer) 0", ""},
		{"renamenx led a", "(integer) 0", ""},
		{"renamenx a a", "(integer) 0", ""},
		{"renamenx late late", "(integer) 0", ""},
	})
	fails(t, 10, api.TextNoKey, "renamenx q a", "renamenx q q", "renamenx q r", "renamenx over a", "renamenx over over", "renamenx past q")
}

// P18.3: COPY gives the other key value and deadline, unless it holds something and REPLACE was not said.
func TestCopy(t *testing.T) {
	check(t, 10, []row{
		{"copy a q", "(integer) 1", `put q "1" 0`},
		{"copy late q", "(integer) 1", `put q "hi" 1000`},
		{"copy soon ''", "(integer) 1", `put  "world" 11`},
		{"copy a over", "(integer) 1", `put over "1" 0`},
		{"copy list q", "(integer) 1", `put q list[1 a 1] 0`},
		{"copy led lost", "(integer) 1", `put lost list[1 a 1] 700`},
		{"copy hash q", "(integer) 1", `put q hash[{1 2}] 0`},
		{"copy seta q", "(integer) 1", `put q set[1 2] 12`},
		{"copy zset q replace", "(integer) 1", `put q zset[{1 -2}] 0`},
		{"copy a late", "(integer) 0", ""},
		{"copy a e", "(integer) 0", ""},
		{"copy led a", "(integer) 0", ""},
		{"copy a late replace", "(integer) 1", `put late "1" 0`},
		{"copy late a REPLACE", "(integer) 1", `put a "hi" 1000`},
		{"copy zset list Replace", "(integer) 1", `put list zset[{1 -2}] 0`},
		{"copy a late replace replace REPLACE", "(integer) 1", `put late "1" 0`},
		{"copy q a", "(integer) 0", ""},
		{"copy q a replace", "(integer) 0", ""},
		{"copy over a replace", "(integer) 0", ""},
		{"copy over q", "(integer) 0", ""},
		{"copy a a", "(integer) 0", ""},
		{"copy a a replace", "(integer) 0", ""},
		{"copy late late replace", "(integer) 0", ""},
		{"copy q q", "(integer) 0", ""},
		// The words in a key's place are keys.
		{"copy a replace", "(integer) 1", `put replace "1" 0`},
		{"copy replace a", "(integer) 0", ""},
	})
	fails(t, 10, api.TextSyntax, "copy a q foo", "copy a q replace foo", "copy a q foo replace", "copy a q ''", "copy a q replac", "copy a q replacee", "copy a q nx", "copy a q absttl", "copy q r foo", "copy a a foo", "copy a late foo")
}

// P18.3: what was copied stays as it is, whatever is done to the first key.
func TestCopyApart(t *testing.T) {
	for name := range kinds() {
		s := begin()
		s.Put("k", kinds()[name], 500)
		mustRun(t, s, 10, "copy", "k", "q")
		mustRun(t, s, 10, "del", "k")
		v, there := s.Get("q", 10)
		if due, _ := s.Due("q", 10); !there || plain(v) != plain(kinds()[name]) || due != 500 {
			t.Errorf("the copy of a %s: %s, %d", name, plain(v), due)
		}
		if r := mustRun(t, s, 10, "type", "q"); r.Text != name {
			t.Errorf("the copy of a %s: %s", name, resp.Show(r))
		}
	}
}
