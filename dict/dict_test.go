package dict

import (
	"iter"
	"math"
	"slices"
	"strconv"
	"strings"
	"testing"

	"covenant/api"
)

// fields is a list of fields out of names and values by turns.
func fields(pairs ...string) []api.Field {
	var list []api.Field
	for i := 0; i < len(pairs); i += 2 {
		list = append(list, api.Field{Name: pairs[i], Value: pairs[i+1]})
	}
	return list
}

// made is a dict of these fields, whose names rise.
func made(t *testing.T, pairs ...string) *Dict {
	t.Helper()
	d, e := Of(fields(pairs...))
	if d == nil || e != api.OK {
		t.Fatalf("Of(%q): %v %d", pairs, d, e)
	}
	return d
}

// gone is the fields that are gone over.
func gone(all iter.Seq2[string, string]) []api.Field {
	var list []api.Field
	for name, value := range all {
		list = append(list, api.Field{Name: name, Value: value})
	}
	return list
}

// tells fails unless a call told these fields.
func tells(t *testing.T, what string, got []api.Field, pairs ...string) {
	t.Helper()
	if !slices.Equal(got, fields(pairs...)) {
		t.Errorf("%s: %q, not %q", what, got, pairs)
	}
}

// holds fails unless a dict holds just these fields, whichever way it is asked.
func holds(t *testing.T, what string, d *Dict, pairs ...string) {
	t.Helper()
	tells(t, what+": Fields", d.Fields(), pairs...)
	tells(t, what+": All", gone(d.All()), pairs...)
	if d.Len() != len(pairs)/2 {
		t.Errorf("%s: Len %d of %q", what, d.Len(), pairs)
	}
	for _, f := range fields(pairs...) {
		if got, ok := d.Get(f.Name); got != f.Value || !ok {
			t.Errorf("%s: Get(%q): %q %t of %q", what, f.Name, got, ok, pairs)
		}
	}
}

// got fails unless Get of a name gives that.
func got(t *testing.T, d *Dict, name, want string, there bool) {
	t.Helper()
	if value, ok := d.Get(name); value != want || ok != there {
		t.Errorf("Get(%q): %q %t, not %q %t", name, value, ok, want, there)
	}
}

// P10.1: Of none, of one and of several fields whose names rise; Len tells how many.
func TestOf(t *testing.T) {
	for _, pairs := range [][]string{
		{},
		{"a", "1"},
		{"", ""},
		{"", "x"},
		{"a", ""},
		{"a", "1", "b", "2"},
		{"a", "same", "b", "same", "c", "same"},
		{"", "1", "\x00", "2", "\x00\x00", "3", "a", "4", "a\x00", "5", "aa", "6", "ab", "7", "b", "8"},
		{"A", "1", "Z", "2", "a", "3", "z", "4"},
		{"-1", "a", "-2", "b", "0", "c", "1", "d", "10", "e", "2", "f"},
		{"a\x00", "1", "a\x01", "2", "a ", "3", "a~", "4", "a\x7f", "5", "a\x80", "6", "a\xff", "7", "b", "8"},
		{"z", "1", "\x80", "2", "\xc3\xa4", "3", "\xe2\x82\xac", "4", "\xff", "5", "\xff\xff", "6"},
		{"a", "the \r\n bytes\x00", "b", "\xff\xfe", "c", " "},
	} {
		holds(t, "Of", made(t, pairs...), pairs...)
	}
	for _, none := range [][]api.Field{nil, {}, make([]api.Field, 0, 3)} {
		if d, e := Of(none); d == nil || e != api.OK || d.Len() != 0 || !d.Set("a", "1") || d.Len() != 1 {
			t.Errorf("Of none: %v %d", d, e)
		}
	}
}

// P10.1: names that fall, or of which two are the same, are refused, wherever they stand and whatever their values are.
func TestOfRefuses(t *testing.T) {
	for _, pairs := range [][]string{
		{"b", "1", "a", "2"},
		{"a", "1", "a", "1"},
		{"a", "1", "a", "2"},
		{"", "", "", ""},
		{"a", "", "", ""},
		{"a", "1", "b", "2", "b", "3"},
		{"a", "1", "a", "2", "b", "3"},
		{"a", "1", "b", "2", "b", "3", "c", "4"},
		{"a", "1", "b", "2", "a", "3"},
		{"a", "1", "b", "2", "c", "3", "a", "4"},
		{"a", "1", "b", "2", "c", "3", "b", "4"},
		{"a", "1", "c", "2", "b", "3", "d", "4"},
		{"b", "1", "a", "2", "c", "3", "d", "4"},
		{"a", "1", "b", "2", "d", "3", "c", "4"},
		{"c", "1", "b", "2", "a", "3"},
		{"aa", "1", "a", "2"},
		{"a\x00", "1", "a", "2"},
		{"b", "1", "aa", "2"},
		{"a", "1", "A", "2"},
		{"2", "1", "10", "2"},
		{"\x80", "1", "\x7f", "2"},
		{"\xff", "1", "a", "2"},
		{"\xff\xff", "1", "\xff", "2"},
	} {
		if d, e := Of(fields(pairs...)); d != nil || e != api.ErrPair {
			t.Errorf("Of(%q): %v %d, not ErrPair", pairs, d, e)
		}
	}
}

// P10.1: of any two names of one or two bytes, Of takes just the one order in which they rise.
func TestOfByBytes(t *testing.T) {
	names := []string{""}
	for c := range 256 {
		names = append(names, string([]byte{byte(c)}), string([]byte{'m', byte(c)}))
	}
	for _, a := range names {
		for _, b := range names {
			want := api.ErrPair
			if strings.Compare(a, b) < 0 {
				want = api.OK
			}
			d, e := Of(fields(a, "x", b, "y"))
			if e != want || (d == nil) != (want != api.OK) {
				t.Fatalf("Of(%q, %q): %d, not %d", a, b, e, want)
			}
		}
	}
}

// Each dict that Of gives is one of its own.
func TestOfAgain(t *testing.T) {
	list := fields("a", "1", "b", "2")
	d, _ := Of(list)
	other, _ := Of(list)
	d.Set("a", "x")
	d.Set("c", "y")
	d.Drop("b")
	holds(t, "the changed one", d, "a", "x", "c", "y")
	holds(t, "the other one", other, "a", "1", "b", "2")
}

// P10.2, P10.1: Set of a name that is there and of one that is not; what is set is got, and Len counts names.
func TestSet(t *testing.T) {
	d := made(t)
	for _, c := range []struct {
		name, value string
		isNew       bool
		length      int
	}{
		{"b", "1", true, 1}, {"b", "2", false, 1}, {"b", "2", false, 1}, {"b", "", false, 1}, {"b", "3", false, 1},
		{"", "", true, 2}, {"", "", false, 2}, {"", "x", false, 2},
		{"a", "1", true, 3}, {"a\x00", "2", true, 4}, {"aa", "3", true, 5}, {"A", "4", true, 6}, {"a", "5", false, 6},
		{"\xff", "\x00\r\n", true, 7}, {"\xff", "\xff", false, 7}, {"\x00", "z", true, 8},
	} {
		if d.Set(c.name, c.value) != c.isNew {
			t.Errorf("Set(%q, %q): %t", c.name, c.value, !c.isNew)
		}
		got(t, d, c.name, c.value, true)
		if d.Len() != c.length {
			t.Errorf("Len behind Set(%q, %q): %d, not %d", c.name, c.value, d.Len(), c.length)
		}
	}
	holds(t, "Set", d, "", "x", "\x00", "z", "A", "4", "a", "5", "a\x00", "2", "aa", "3", "b", "3", "\xff", "\xff")
}

// P10.2: Get of a name that is there, with an empty value too, and of others that are near.
func TestGet(t *testing.T) {
	d := made(t, "a", "1", "ab", "", "b", "b")
	got(t, d, "a", "1", true)
	got(t, d, "ab", "", true)
	got(t, d, "b", "b", true)
	for _, name := range []string{"", "A", "aa", "abc", "a\x00", "\x00a", "1", "c", "\xff"} {
		got(t, d, name, "", false)
	}
	holds(t, "behind Get", d, "a", "1", "ab", "", "b", "b")
	d.Set("", "e")
	got(t, d, "", "e", true)
	got(t, made(t), "", "", false)
	got(t, made(t), "a", "", false)
}

// P10.2, P10.1: Drop of a name that is there, of one that is there no more, and of one that never was.
func TestDrop(t *testing.T) {
	d := made(t, "", "e", "a", "1", "ab", "2", "b", "")
	for _, c := range []struct {
		name   string
		there  bool
		length int
	}{
		{"c", false, 4}, {"A", false, 4}, {"a\x00", false, 4},
		{"a", true, 3}, {"a", false, 3},
		{"b", true, 2}, {"b", false, 2},
		{"", true, 1}, {"", false, 1},
		{"ab", true, 0}, {"ab", false, 0}, {"c", false, 0},
	} {
		if d.Drop(c.name) != c.there {
			t.Errorf("Drop(%q): %t", c.name, !c.there)
		}
		got(t, d, c.name, "", false)
		if d.Len() != c.length {
			t.Errorf("Len behind Drop(%q): %d, not %d", c.name, d.Len(), c.length)
		}
	}
	holds(t, "Drop of all", d)
	if !d.Set("a", "2") || d.Set("a", "3") {
		t.Error("Set behind Drop")
	}
	holds(t, "Set behind Drop", d, "a", "3")
}

// P10.3: Incr adds to a number's text, and makes one where there is none.
func TestIncr(t *testing.T) {
	const least, greatest = math.MinInt, math.MaxInt
	for _, c := range []struct {
		value string // none, if the name is not there
		by    int
		sum   int
	}{
		{"none", 0, 0}, {"none", 1, 1}, {"none", -1, -1}, {"none", greatest, greatest}, {"none", least, least},
		{"0", 0, 0}, {"0", 5, 5}, {"0", greatest, greatest}, {"0", least, least},
		{"1", 4, 5}, {"5", -5, 0}, {"5", -7, -2}, {"-5", 7, 2}, {"99", 1, 100}, {"-100", 1, -99}, {"7", 0, 7},
		{"9223372036854775806", 1, greatest}, {"9223372036854775807", 0, greatest}, {"9223372036854775807", least, -1}, {"9223372036854775807", -greatest, 0},
		{"1", greatest - 1, greatest}, {"-1", least + 1, least}, {"-1", greatest, greatest - 1}, {"1", least, least + 1},
		{"-9223372036854775807", -1, least}, {"-9223372036854775808", 0, least}, {"-9223372036854775808", greatest, -1},
	} {
		d := made(t, "m", "x", "o", "1")
		if c.value != "none" {
			d.Set("n", c.value)
		}
		if sum, e := d.Incr("n", c.by); sum != c.sum || e != api.OK {
			t.Errorf("Incr of %s by %d: %d %d, not %d", c.value, c.by, sum, e, c.sum)
		}
		holds(t, "behind Incr", d, "m", "x", "n", strconv.Itoa(c.sum), "o", "1")
	}
}

// P10.3, R2: Incr refuses a value that is no number's text ahead of a sum that is no int, tells 0 beside the error, and leaves all as it was.
func TestIncrRefuses(t *testing.T) {
	const least, greatest = math.MinInt, math.MaxInt
	type refused struct {
		value string
		by    int
		e     api.Errno
	}
	list := []refused{
		{"9223372036854775807", 1, api.ErrOver}, {"9223372036854775807", greatest, api.ErrOver}, {"1", greatest, api.ErrOver}, {"2", greatest - 1, api.ErrOver},
		{"-9223372036854775808", -1, api.ErrOver}, {"-9223372036854775808", least, api.ErrOver}, {"-1", least, api.ErrOver}, {"-2", least + 1, api.ErrOver},
	}
	for _, value := range []string{"", " ", "x", "1x", "x1", " 1", "1 ", "+1", "-0", "01", "-01", "--1", "-", "1.0", "1e3", "0x1", "1\x00", "\xff", "9223372036854775808", "-9223372036854775809", "none"} {
		for _, by := range []int{least, -1, 0, 1, greatest} {
			list = append(list, refused{value, by, api.ErrNumber})
		}
	}
	for _, c := range list {
		for _, name := range []string{"n", "nn"} {
			d := made(t, "m", "1", name, c.value, "o", "2")
			if sum, e := d.Incr(name, c.by); sum != 0 || e != c.e {
				t.Errorf("Incr of %q by %d: %d %d, not %d", c.value, c.by, sum, e, c.e)
			}
			holds(t, "behind an Incr that is refused", d, "m", "1", name, c.value, "o", "2")
		}
	}
}

// P10.3: a name that was dropped counts as one that is not there; the empty name is one like others; sums go on.
func TestIncrGoesOn(t *testing.T) {
	d := made(t)
	for i := 1; i <= 20; i++ {
		if sum, e := d.Incr("", 3); sum != 3*i || e != api.OK {
			t.Fatalf("Incr: %d %d, not %d", sum, e, 3*i)
		}
		got(t, d, "", strconv.Itoa(3*i), true)
	}
	d.Drop("")
	if sum, e := d.Incr("", -2); sum != -2 || e != api.OK || d.Len() != 1 {
		t.Errorf("Incr behind Drop: %d %d", sum, e)
	}
	d.Set("", "ten")
	if sum, e := d.Incr("", 1); sum != 0 || e != api.ErrNumber {
		t.Errorf("Incr of ten: %d %d", sum, e)
	}
	d.Set("", "10")
	if sum, e := d.Incr("", 1); sum != 11 || e != api.OK {
		t.Errorf("Incr of 10: %d %d", sum, e)
	}
	holds(t, "at the end", d, "", "11")
}

// P10.4: After tells the first names that are greater, rising, and as many as are asked for.
func TestAfter(t *testing.T) {
	d := made(t, "b", "1", "bb", "2", "d", "3", "\xff", "4")
	all := []string{"b", "1", "bb", "2", "d", "3", "\xff", "4"}
	for _, c := range []struct {
		name   string
		behind []string
	}{
		{"", all}, {"\x00", all}, {"B", all}, {"a", all}, {"azzz", all},
		{"b", all[2:]}, {"b\x00", all[2:]}, {"ba\xff", all[2:]},
		{"bb", all[4:]}, {"bb\x00", all[4:]}, {"bbb", all[4:]}, {"c", all[4:]}, {"cz", all[4:]},
		{"d", all[6:]}, {"d\x00", all[6:]}, {"z", all[6:]}, {"\xfe\xff", all[6:]},
		{"\xff", nil}, {"\xff\x00", nil}, {"\xff\xff", nil},
	} {
		for _, most := range []int{math.MinInt, -2, -1, 0, 1, 2, 3, 4, 5, 6, math.MaxInt} {
			n := min(max(most, 0), len(c.behind)/2)
			tells(t, "After "+strconv.Quote(c.name)+" "+strconv.Itoa(most), d.After(c.name, most), c.behind[:2*n]...)
			tells(t, "After of none", made(t).After(c.name, most))
		}
	}
	holds(t, "behind After", d, all...)
	d.Set("", "0")
	tells(t, "After the empty name, which is there", d.After("", 1), "b", "1")
}

// P10.4: After tells how it stands now.
func TestAfterChanges(t *testing.T) {
	d := made(t, "a", "1", "c", "3")
	tells(t, "After", d.After("a", 2), "c", "3")
	d.Set("b", "2")
	d.Set("c", "4")
	tells(t, "After behind Set", d.After("a", 2), "b", "2", "c", "4")
	d.Drop("a")
	d.Drop("b")
	tells(t, "After behind Drop", d.After("a", 2), "c", "4")
	d.Incr("d", 7)
	tells(t, "After behind Incr", d.After("a", 2), "c", "4", "d", "7")
}

// P10.4: All goes over the fields, rising; it may be left at any time, gone over again, and nested.
func TestAll(t *testing.T) {
	row := []string{"", "e", "a", "1", "aa", "2", "b", "3"}
	d := made(t)
	for i := len(row); i > 0; i -= 2 {
		d.Set(row[i-2], row[i-1])
	}
	all := d.All()
	for leave := range 6 {
		var seen []api.Field
		for name, value := range all {
			if len(seen) == leave {
				break
			}
			seen = append(seen, api.Field{Name: name, Value: value})
		}
		tells(t, "All left", seen, row[:2*min(leave, 4)]...)
		tells(t, "All again", gone(all), row...)
	}
	for range made(t).All() {
		t.Error("All of none")
	}
}

// P10.4: one All within itself, and within another, left there too.
func TestAllNested(t *testing.T) {
	d := made(t, "a", "1", "b", "2", "c", "3")
	all := d.All()
	var seen []string
	for a := range all {
		for b, value := range all {
			if b == "c" {
				break
			}
			seen = append(seen, a+b+value)
			for c := range d.All() {
				seen = append(seen, c)
				if c == b {
					break
				}
			}
		}
	}
	if told := strings.Join(seen, " "); told != "aa1 a ab2 a b ba1 a bb2 a b ca1 a cb2 a b" {
		t.Errorf("nested: %s", told)
	}
}

// P10.4: an All that is left goes no further.
func TestAllLeft(t *testing.T) {
	calls := 0
	made(t, "a", "1", "b", "2", "c", "3").All()(func(string, string) bool {
		calls++
		return calls < 2
	})
	if calls != 2 {
		t.Errorf("%d calls", calls)
	}
}

// P10.4: All goes over what was there when it was called, whatever is done ahead of its first step and meanwhile.
func TestAllMeanwhile(t *testing.T) {
	row := []string{"a", "1", "b", "2", "c", "3"}
	changes := map[string]func(d *Dict){
		"nothing":   func(d *Dict) {},
		"Set new":   func(d *Dict) { d.Set("", "x"); d.Set("aa", "x"); d.Set("bb", "x"); d.Set("z", "x") },
		"Set old":   func(d *Dict) { d.Set("a", "x"); d.Set("b", "x"); d.Set("c", "x") },
		"Drop":      func(d *Dict) { d.Drop("a"); d.Drop("b"); d.Drop("c") },
		"Drop none": func(d *Dict) { d.Drop("z"); d.Drop("") },
		"Incr":      func(d *Dict) { d.Incr("a", 9); d.Incr("c", 9); d.Incr("n", 9) },
		"refused":   func(d *Dict) { d.Set("b", "x"); d.Incr("b", 1) },
		"asked":     func(d *Dict) { d.Len(); d.Get("b"); d.Fields(); d.After("a", 1); d.All() },
		"gone over": func(d *Dict) { gone(d.All()); d.Drop("b"); gone(d.All()) },
	}
	for what, change := range changes {
		d := made(t, row...)
		all := d.All()
		change(d)
		tells(t, what+" ahead of the first step", gone(all), row...)
		for step := range 3 {
			d := made(t, row...)
			all := d.All()
			var seen []api.Field
			for name, value := range all {
				if len(seen) == step {
					change(d)
				}
				seen = append(seen, api.Field{Name: name, Value: value})
			}
			tells(t, what+" meanwhile", seen, row...)
			tells(t, what+" meanwhile, again", gone(all), row...)
			other := made(t, row...)
			change(other)
			if !slices.Equal(d.Fields(), other.Fields()) {
				t.Errorf("%s meanwhile: %q, not %q", what, d.Fields(), other.Fields())
			}
		}
	}
	d := made(t, row...)
	for name := range d.All() {
		d.Drop(name)
		d.Set(name+"'", name)
	}
	holds(t, "each dropped and another set", d, "a'", "a", "b'", "b", "c'", "c")
}

// The chapter's examples.
func TestExamples(t *testing.T) {
	d := made(t, "a", "1", "b", "2")
	if d.Len() != 2 || d.Set("b", "3") || !d.Set("", "x") {
		t.Error("example 1")
	}
	holds(t, "example 1", d, "", "x", "a", "1", "b", "3")
	if n, e := d.Incr("a", 4); n != 5 || e != api.OK {
		t.Errorf("example 2: %d %d", n, e)
	}
	if n, e := d.Incr("n", -1); n != -1 || e != api.OK {
		t.Errorf("example 2: %d %d", n, e)
	}
	if n, e := d.Incr("", 1); n != 0 || e != api.ErrNumber {
		t.Errorf("example 2: %d %d", n, e)
	}
	d.Set("a", "9223372036854775807")
	if n, e := d.Incr("a", 1); n != 0 || e != api.ErrOver {
		t.Errorf("example 2: %d %d", n, e)
	}
	holds(t, "example 2", d, "", "x", "a", "9223372036854775807", "b", "3", "n", "-1")
	tells(t, "example 3", d.After("", 1), "a", "9223372036854775807")
	tells(t, "example 3", d.After("a", 9), "b", "3", "n", "-1")
	tells(t, "example 3", d.After("z", 9))
	tells(t, "example 3", d.After("a", -1))
}

// A nil Dict answers zero values, and keeps nothing.
func TestNil(t *testing.T) {
	var d *Dict
	for range 2 {
		for _, name := range []string{"", "a"} {
			if d.Set(name, "5") || d.Drop(name) {
				t.Errorf("Set or Drop(%q): true", name)
			}
			got(t, d, name, "", false)
			for _, by := range []int{math.MinInt, -1, 0, 1, math.MaxInt} {
				if n, e := d.Incr(name, by); n != 0 || e != api.OK {
					t.Errorf("Incr(%q, %d): %d %d", name, by, n, e)
				}
			}
			for _, most := range []int{math.MinInt, -1, 0, 1, math.MaxInt} {
				tells(t, "After", d.After(name, most))
			}
		}
		all := d.All()
		for range 2 {
			tells(t, "All", gone(all))
		}
		holds(t, "nil", d)
	}
}

// A Dict that is written as its zero value is one of no fields, on which every call works.
func TestZero(t *testing.T) {
	for what, use := range map[string]func(d *Dict){
		"nothing": func(d *Dict) {},
		"Set":     func(d *Dict) { d.Set("a", "5"); d.Drop("a") },
		"Incr":    func(d *Dict) { d.Incr("a", 1); d.Drop("a") },
		"asked": func(d *Dict) {
			d.Get("a")
			d.Drop("a")
			d.Fields()
			d.After("", 1)
			gone(d.All())
			d.Len()
		},
	} {
		d := new(Dict)
		use(d)
		holds(t, what, d)
		got(t, d, "a", "", false)
		tells(t, what, d.After("", 9))
		if d.Drop("a") || !d.Set("a", "5") {
			t.Errorf("%s: Drop or Set", what)
		}
		holds(t, what, d, "a", "5")
	}
}
