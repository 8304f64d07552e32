package hashcmd

import (
	"math/rand"
	"slices"
	"testing"

	"covenant/num"
	"covenant/resp"
	"covenant/space"
)

// pairRows is the short rows of pairs out of two names and two values.
func pairRows() [][]string {
	pairs := [][]string{{"a", "1"}, {"a", "2"}, {"b", "1"}, {"", ""}}
	all := slices.Clone(pairs)
	for i := 0; len(all[i]) < 8; i++ {
		for _, pair := range pairs {
			all = append(all, append(slices.Clone(all[i]), pair...))
		}
	}
	return all
}

// P20.5: behind HSET of pairs, in one request or in several, of new names or old ones, HGETALL tells of each name the last value that it was given.
func TestSetIsTold(t *testing.T) {
	for _, row := range pairRows() {
		last := map[string]string{}
		for i := 0; i < len(row); i += 2 {
			last[row[i]] = row[i+1]
		}
		for _, key := range []string{"q", "h", "late", "over"} {
			for _, name := range []string{"hset", "hmset"} {
				s, other := begin(), begin()
				mustRun(t, s, 10, append([]string{name, key}, row...)...)
				for i := 0; i < len(row); i += 2 {
					mustRun(t, other, 10, name, key, row[i], row[i+1])
				}
				want := map[string]string{}
				if v, there := begin().Get(key, 10); there {
					for _, f := range v.Fields {
						want[f.Name] = f.Value
					}
				}
				for name, value := range last {
					want[name] = value
				}
				for _, s := range []*space.Space{s, other} {
					told := bulksOf(t, mustRun(t, s, 10, "hgetall", key))
					if len(told) != 2*len(want) {
						t.Fatalf("%s %s %q: %q", name, key, row, told)
					}
					for i := 0; i < len(told); i += 2 {
						if want[told[i]] != told[i+1] {
							t.Errorf("%s %s %q: %q", name, key, row, told)
						}
					}
				}
			}
		}
	}
}

// P20.5: what HINCRBY told last HGET tells as its text; what HSET laid in between is added to.
func TestIncrementIsTold(t *testing.T) {
	r := rand.New(rand.NewSource(1))
	s := begin()
	for range 3000 {
		key, name := []string{"q", "late"}[r.Intn(2)], []string{"a", "b", "p", ""}[r.Intn(4)]
		if r.Intn(10) == 0 {
			mustRun(t, s, 10, "hset", key, name, num.Print(int(r.Uint64())))
		}
		by := int(r.Uint64()) >> r.Intn(64)
		was, there := 0, mustRun(t, s, 10, "hexists", key, name).N == 1
		if there {
			was, _ = num.Parse(mustRun(t, s, 10, "hget", key, name).Text)
		}
		told := mustRun(t, s, 10, "hincrby", key, name, num.Print(by))
		is := mustRun(t, s, 10, "hget", key, name)
		want, e := num.Add(was, by)
		switch {
		case e != 0:
			if told.Kind != 2 || there && is.Text != num.Print(was) {
				t.Fatalf("hincrby of %d by %d: %s, %s", was, by, resp.Show(told), resp.Show(is))
			}
		case told.N != want || is.Text != num.Print(want):
			t.Fatalf("hincrby of %d by %d: %s, %s", was, by, resp.Show(told), resp.Show(is))
		}
	}
}
