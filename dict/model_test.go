package dict

import (
	"fmt"
	"math"
	"math/rand"
	"slices"
	"strconv"
	"testing"

	"covenant/api"
)

// call is one call that may change a dict.
type call struct {
	what, name, value string
	by                int
}

// do is the call of a dict, and all that it answers.
func do(d *Dict, c call) string {
	switch c.what {
	case "set":
		return fmt.Sprint(d.Set(c.name, c.value))
	case "drop":
		return fmt.Sprint(d.Drop(c.name))
	}
	return fmt.Sprint(d.Incr(c.name, c.by))
}

// model is a dict by the chapter's words, told another way: a list of fields in no order, of which one is found by looking at all.
type model struct {
	list []api.Field
}

func (m *model) find(name string) int {
	return slices.IndexFunc(m.list, func(f api.Field) bool { return f.Name == name })
}

func (m *model) do(c call) string {
	at := m.find(c.name)
	switch c.what {
	case "set":
		m.set(at, c.name, c.value)
		return fmt.Sprint(at < 0)
	case "drop":
		if at >= 0 {
			m.list = slices.Delete(m.list, at, at+1)
		}
		return fmt.Sprint(at >= 0)
	}
	value := "0"
	if at >= 0 {
		value = m.list[at].Value
	}
	n, err := strconv.ParseInt(value, 10, 64)
	if err != nil || strconv.FormatInt(n, 10) != value {
		return "0 10"
	}
	if c.by > 0 && int(n) > math.MaxInt-c.by || c.by < 0 && int(n) < math.MinInt-c.by {
		return "0 11"
	}
	m.set(at, c.name, strconv.Itoa(int(n)+c.by))
	return fmt.Sprint(int(n)+c.by, 0)
}

func (m *model) set(at int, name, value string) {
	if at < 0 {
		m.list = append(m.list, api.Field{Name: name, Value: value})
	} else {
		m.list[at].Value = value
	}
}

// less is the order byte by byte.
func less(a, b string) bool {
	for i := range min(len(a), len(b)) {
		if a[i] != b[i] {
			return a[i] < b[i]
		}
	}
	return len(a) < len(b)
}

// sorted is the fields in their order: each by how many others stand ahead of it.
func (m *model) sorted() []api.Field {
	out := make([]api.Field, len(m.list))
	for _, f := range m.list {
		ahead := 0
		for _, other := range m.list {
			if less(other.Name, f.Name) {
				ahead++
			}
		}
		out[ahead] = f
	}
	return out
}

func (m *model) after(name string, most int) []api.Field {
	var out []api.Field
	for _, f := range m.sorted() {
		if less(name, f.Name) && len(out) < most {
			out = append(out, f)
		}
	}
	return out
}

// same fails unless a dict tells what the model tells, of these names too.
func (m *model) same(t *testing.T, d *Dict, names []string, script any) {
	t.Helper()
	want := m.sorted()
	if !slices.Equal(d.Fields(), want) || !slices.Equal(gone(d.All()), want) || d.Len() != len(want) {
		t.Fatalf("%v: Fields %q, All %q, Len %d, not %q", script, d.Fields(), gone(d.All()), d.Len(), want)
	}
	for _, name := range names {
		at := m.find(name)
		value, ok := d.Get(name)
		if ok != (at >= 0) || ok && value != m.list[at].Value || !ok && value != "" {
			t.Fatalf("%v: Get(%q): %q %t of %q", script, name, value, ok, want)
		}
		for _, most := range []int{-1, 0, 1, 2, len(want) - 1, len(want), len(want) + 1, math.MaxInt} {
			if got := d.After(name, most); !slices.Equal(got, m.after(name, most)) {
				t.Fatalf("%v: After(%q, %d): %q of %q", script, name, most, got, want)
			}
		}
	}
}

// P10.1 to 10.4: every script of few calls about three names, one the beginning of another.
func TestShortScripts(t *testing.T) {
	names := []string{"", "a", "a\x00"}
	calls := []call{{what: "incr", name: "a", by: -1}, {what: "incr", name: "a", by: math.MaxInt}, {what: "set", name: "a", value: "9223372036854775807"}}
	for _, name := range names {
		calls = append(calls, call{what: "set", name: name, value: "7"}, call{what: "set", name: name}, call{what: "drop", name: name}, call{what: "incr", name: name, by: 1})
	}
	asked := append(names, "\x00", "a\x00\x00", "b")
	var walk func(script []call, left int)
	walk = func(script []call, left int) {
		d, m := made(t), &model{}
		for _, c := range script {
			if got, want := do(d, c), m.do(c); got != want {
				t.Fatalf("%+v: %s, not %s", script, got, want)
			}
		}
		m.same(t, d, asked, script)
		for _, c := range calls {
			if left > 0 {
				walk(append(script[:len(script):len(script)], c), left-1)
			}
		}
	}
	walk(nil, 3)
}

// anyText is a text of up to three bytes, of few kinds or of all, so that names meet again.
func anyText(r *rand.Rand) string {
	b := make([]byte, r.Intn(4))
	for i := range b {
		b[i] = "\x00ab\xff"[r.Intn(4)]
		if r.Intn(8) == 0 {
			b[i] = byte(r.Intn(256))
		}
	}
	return string(b)
}

// anyCall is a call of any kind about one of these names.
func anyCall(r *rand.Rand, names []string) call {
	c := call{what: "set", name: names[r.Intn(len(names))], value: anyText(r)}
	switch r.Intn(8) {
	case 0, 1:
		c.value = strconv.Itoa(int(r.Uint64()) >> r.Intn(64))
	case 2, 3:
		c.what = "drop"
	case 4, 5:
		c.what, c.by = "incr", int(r.Uint64())>>r.Intn(64)
	}
	return c
}

// P10.1 to 10.5: long scripts over many names with bytes of every kind.
func TestLongScripts(t *testing.T) {
	for seed := range int64(60) {
		r := rand.New(rand.NewSource(seed))
		names := make([]string, 1+r.Intn(40))
		for i := range names {
			names[i] = anyText(r)
		}
		d, m := made(t), &model{}
		for step := range 150 {
			c := anyCall(r, names)
			if got, want := do(d, c), m.do(c); got != want {
				t.Fatalf("seed %d, step %d, %+v: %s, not %s", seed, step, c, got, want)
			}
			m.same(t, d, []string{c.name, names[r.Intn(len(names))], anyText(r)}, step)
			follows(t, d)
		}
	}
}

// follows fails unless what the chapter says follows is so of a dict.
func follows(t *testing.T, d *Dict) {
	t.Helper()
	want := d.Fields()
	back, e := Of(want)
	if e != api.OK || !slices.Equal(back.Fields(), want) || back.Len() != len(want) {
		t.Fatalf("Of of Fields %q: %d %q", want, e, back.Fields())
	}
	for from := range want {
		for _, most := range []int{1, 2, len(want), math.MaxInt} {
			if told := walked(d, want[from].Name, most); !slices.Equal(told, want[from+1:]) {
				t.Fatalf("After by %d from %q: %q of %q", most, want[from].Name, told, want)
			}
		}
	}
}

// walked is what After tells from a name on, again and again; a walk that does not end is left.
func walked(d *Dict, name string, most int) []api.Field {
	var told []api.Field
	for len(told) <= d.Len() {
		more := d.After(name, most)
		if len(more) == 0 {
			break
		}
		told = append(told, more...)
		name = more[len(more)-1].Name
	}
	return told
}

// P10.5: what is set is got, and nothing else changes, by a Set, a Drop and an Incr alike.
func TestNothingElse(t *testing.T) {
	names := []string{"", "\x00", "A", "a", "a\x00", "aa", "b", "\xff"}
	for _, name := range names {
		for what, c := range map[string]struct {
			do    func(d *Dict)
			want  string
			there bool
		}{
			"Set":  {func(d *Dict) { d.Set(name, "new") }, "new", true},
			"Drop": {func(d *Dict) { d.Drop(name) }, "", false},
			"Incr": {func(d *Dict) { d.Incr(name, 2) }, "7", true},
		} {
			d := made(t)
			for _, other := range names {
				d.Set(other, "5")
			}
			c.do(d)
			for _, other := range names {
				if other != name {
					got(t, d, other, "5", true)
				}
			}
			got(t, d, name, c.want, c.there)
			if left := len(names); what != "Drop" && d.Len() != left || what == "Drop" && d.Len() != left-1 {
				t.Errorf("Len behind %s(%q): %d", what, name, d.Len())
			}
			follows(t, d)
		}
	}
}

// P10.5: the walk by After goes on behind a name that was dropped meanwhile, and tells each of the others once.
func TestAfterWhileDropping(t *testing.T) {
	for most := 1; most < 8; most++ {
		d := made(t)
		var want []string
		for i := range 26 {
			want = append(want, string(rune('a'+i)))
			d.Set(want[i], "v")
		}
		var told []string
		last := ""
		for more := d.After(last, most); len(more) > 0; more = d.After(last, most) {
			for _, f := range more {
				told = append(told, f.Name)
				d.Drop(f.Name)
				last = f.Name
			}
		}
		if !slices.Equal(told, want) || d.Len() != 0 {
			t.Errorf("by %d: %q, Len %d", most, told, d.Len())
		}
	}
}
