package setcmd

import (
	"fmt"
	"math/rand"
	"slices"
	"testing"

	"covenant/resp"
	"covenant/space"
)

// someSets is a space with sets at the keys k to n out of few elements, some with deadlines, some of them absent.
func someSets(r *rand.Rand) *space.Space {
	s := space.New()
	for _, key := range []string{"k", "l", "m", "n"} {
		var set []string
		for _, element := range []string{"", "a", "ab", "b", "c", "d"} {
			if r.Intn(2) == 0 {
				set = append(set, element)
			}
		}
		s.Put(key, aSet(set...), r.Intn(3)*20)
	}
	return s
}

// elementsOf is the elements that SMEMBERS tells.
func elementsOf(t *testing.T, s *space.Space, key string) []string {
	t.Helper()
	return bulksOf(t, mustRun(t, s, 10, "smembers", key))
}

// 21.7: SMOVE neither makes nor loses an element: the one that it moved stands in the second set, and all others stand where they stood.
func TestMoveKeeps(t *testing.T) {
	for seed := range int64(2000) {
		r := rand.New(rand.NewSource(seed))
		s := someSets(r)
		keys := []string{"k", "l", "m", "n"}
		from, to, element := keys[r.Intn(4)], keys[r.Intn(4)], []string{"", "a", "ab", "b", "c", "d", "q"}[r.Intn(7)]
		was := map[string][]string{}
		for _, key := range keys {
			was[key] = elementsOf(t, s, key)
		}
		there := slices.Contains(was[from], element)
		if n := mustRun(t, s, 10, "smove", from, to, element); (n.N == 1) != there {
			t.Errorf("smove %s %s %q: %s, of %q", from, to, element, resp.Show(n), was)
		}
		if there {
			was[from] = slices.DeleteFunc(was[from], func(x string) bool { return x == element })
			was[to] = append(slices.DeleteFunc(was[to], func(x string) bool { return x == element }), element)
		}
		for _, key := range keys {
			slices.Sort(was[key])
			if got := elementsOf(t, s, key); !slices.Equal(got, was[key]) {
				t.Errorf("smove %s %s %q: %q at %s, not %q", from, to, element, got, key, was[key])
			}
		}
	}
}

// 21.7: what the stored forms tell is what SCARD tells then, and their set is what the others would have told.
func TestStoredIsTold(t *testing.T) {
	for seed := range int64(2000) {
		r := rand.New(rand.NewSource(seed))
		s := someSets(r)
		name := []string{"sinter", "sunion", "sdiff"}[r.Intn(3)]
		var keys []string
		for range 1 + r.Intn(4) {
			keys = append(keys, []string{"k", "l", "m", "n", "q"}[r.Intn(5)])
		}
		target := []string{"k", "l", "m", "n", "q"}[r.Intn(5)]
		would := bulksOf(t, mustRun(t, s, 10, append([]string{name}, keys...)...))
		told := mustRun(t, s, 10, append([]string{name + "store", target}, keys...)...)
		card := mustRun(t, s, 10, "scard", target)
		if resp.Show(told) != resp.Show(card) || told.N != len(would) || !slices.Equal(elementsOf(t, s, target), would) {
			t.Errorf("%sstore %s %q: %s, then %s, %q, not %q", name, target, keys, resp.Show(told), resp.Show(card), elementsOf(t, s, target), would)
		}
	}
}

// SPOP again and again tells what SMEMBERS told, whatever the counts.
func TestPopIsTold(t *testing.T) {
	for seed := range int64(300) {
		r := rand.New(rand.NewSource(seed))
		s := someSets(r)
		all := elementsOf(t, s, "k")
		var told []string
		for range 7 {
			if r.Intn(2) == 0 {
				told = append(told, bulksOf(t, mustRun(t, s, 10, "spop", "k", fmt.Sprint(r.Intn(3))))...)
			} else if one := mustRun(t, s, 10, "spop", "k"); one.Kind == 4 {
				told = append(told, one.Text)
			}
		}
		told = append(told, elementsOf(t, s, "k")...)
		if !slices.Equal(told, all) {
			t.Errorf("seed %d: %q, not %q", seed, told, all)
		}
	}
}
