package table

import (
	"math/rand"
	"slices"
	"strings"
	"testing"

	"covenant/api"
)

// 15.3: the keys of requests, read by eye.
func TestKeysTexts(t *testing.T) {
	for _, x := range [][2]string{
		{"", ""},
		{"foo a b", ""},
		{"get", ""},
		{"get a b", ""},
		{"get a", "a"},
		{"GET a", "a"},
		{"set a b", "a"},
		{"set a b px 5", "a"},
		{"ping", ""},
		{"ping a", ""},
		{"echo a", ""},
		{"keys a", ""},
		{"scan 0 count 5", ""},
		{"dbsize", ""},
		{"flushall", ""},
		{"flushall a", ""},
		{"exec", ""},
		{"reset", ""},
		{"watch", ""},
		{"watch a", "a"},
		{"Watch a b a", "a b a"},
		{"copy a b", "a b"},
		{"copy a b replace", "a b"},
		{"copy a a", "a a"},
		{"rename a b", "a b"},
		{"rename a", ""},
		{"rename a b c", ""},
		{"lmove a b left right", "a b"},
		{"smove a b m", "a b"},
		{"rpoplpush b a", "b a"},
		{"del a", "a"},
		{"del c b a b", "c b a b"},
		{"mget b b b", "b b b"},
		{"sdiffstore d a b", "d a b"},
		{"mset a", ""},
		{"mset a 1", "a"},
		{"mset a 1 b", "a b"},
		{"mset a 1 b 2", "a b"},
		{"mset a 1 b 2 c", "a b c"},
		{"mset a 1 a 2 a", "a a a"},
		{"MSETNX b 1 a 2", "b a"},
		{"bitop and d", ""},
		{"bitop and d x", "d x"},
		{"bitop and d x d y", "d x d y"},
		{"hset h a 1 b 2", "h"},
		{"zadd z 1 a 2 b", "z"},
		{"lpush l a b", "l"},
	} {
		if got := Keys(strings.Fields(x[0])); !slices.Equal(got, strings.Fields(x[1])) {
			t.Errorf("Keys(%s): %q, not %s", x[0], got, x[1])
		}
	}
	for _, key := range []string{"", "\x00\xff", "A b", "get"} {
		if got := Keys([]string{"get", key}); !slices.Equal(got, []string{key}) {
			t.Errorf("Keys(get %q): %q", key, got)
		}
	}
}

// isKey says of the word at a place whether it is a key of a request that has so many words.
func isKey(row api.Spec, words, at int) bool {
	last := row.Last
	if last < 0 {
		last = words + last
	}
	return row.First > 0 && at >= row.First && at <= last && (at-row.First)%row.Step == 0
}

// keysByPlace is the model: each word is asked whether it is a key.
func keysByPlace(rows []api.Spec, args []string) []string {
	var keys []string
	for _, row := range rows {
		if len(args) == 0 || !slices.Contains(spellings(row.Name), args[0]) {
			continue
		}
		if row.Arity > 0 && len(args) != row.Arity || row.Arity < 0 && len(args) < -row.Arity {
			continue
		}
		for at, word := range args {
			if isKey(row, len(args), at) {
				keys = append(keys, word)
			}
		}
	}
	return keys
}

// 15.3: every row, with every number of words up to some ten.
func TestKeys(t *testing.T) {
	rows := chapter(t)
	for _, row := range rows {
		for words := 1; words <= 11; words++ {
			for _, name := range spellings(row.Name) {
				args := request(name, words)
				got := Keys(args)
				if want := keysByPlace(rows, args); !slices.Equal(got, want) {
					t.Errorf("Keys(%q): %q, not %q", args, got, want)
				}
				if Check(args) != "" && len(got) > 0 {
					t.Errorf("Keys(%q): %q, though it is refused", args, got)
				}
			}
		}
	}
}

// 15.3: requests at random, with few words that stand often, and long ones.
func TestKeysRandom(t *testing.T) {
	rows := chapter(t)
	rng := rand.New(rand.NewSource(15))
	pool := []string{"", "a", "b", "get", "mset", "\xff", "-1"}
	for range 5000 {
		args := []string{rows[rng.Intn(len(rows))].Name}
		if rng.Intn(20) == 0 {
			args[0] = pool[rng.Intn(len(pool))]
		}
		words := rng.Intn(8)
		if rng.Intn(10) == 0 {
			words = rng.Intn(300)
		}
		for range words {
			args = append(args, pool[rng.Intn(len(pool))])
		}
		if got, want := Keys(args), keysByPlace(rows, args); !slices.Equal(got, want) {
			t.Fatalf("Keys(%q): %q, not %q", args, got, want)
		}
	}
}

// 15.3: as many words as a request may have at most.
func TestKeysMany(t *testing.T) {
	args := request("mset", api.MaxArgs)
	keys := Keys(args)
	if len(keys) != api.MaxArgs/2 || keys[0] != args[1] || keys[len(keys)-1] != args[len(args)-1] {
		t.Errorf("Keys of mset with %d words: %d", len(args), len(keys))
	}
	if keys = Keys(request("del", api.MaxArgs)); !slices.Equal(keys, request("del", api.MaxArgs)[1:]) {
		t.Errorf("Keys of del with %d words: %d", api.MaxArgs, len(keys))
	}
}
