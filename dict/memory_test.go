package dict

import (
	"math/rand"
	"slices"
	"strconv"
	"testing"

	"covenant/api"
)

// spoil writes over a list and over the spare room behind it.
func spoil(list []api.Field) {
	list = list[:cap(list)]
	for i := range list {
		list[i] = api.Field{Name: "spoilt", Value: "spoilt"}
	}
}

// R4: what is handed in is neither changed nor kept, what lies behind its end neither.
func TestNotKept(t *testing.T) {
	row := []string{"a", "1", "b", "2", "c", "3", "d", "4", "e", "5"}
	room := fields(row...)
	d, e := Of(room[1:4])
	if e != api.OK {
		t.Fatal(e)
	}
	tells(t, "behind Of", room, row...)
	d.Set("b", "x")
	d.Set("bb", "x")
	d.Drop("c")
	d.Incr("d", 5)
	d.Incr("z", 1)
	spoil(d.Fields())
	spoil(d.After("b", 2))
	tells(t, "behind other calls", room, row...)
	spoil(room)
	holds(t, "behind a change of what was handed in", d, "b", "x", "bb", "x", "d", "9", "z", "1")

	falling := fields("a", "1", "c", "2", "b", "3")
	Of(falling)
	tells(t, "behind an Of that is refused", falling, "a", "1", "c", "2", "b", "3")
}

// R4: what is handed out is new memory, spare room too: whatever is written there changes neither the dict nor another answer.
func TestNewMemory(t *testing.T) {
	row := []string{"a", "1", "b", "2", "c", "3", "d", "4"}
	for what, ask := range map[string]func(d *Dict) []api.Field{
		"Fields":        func(d *Dict) []api.Field { return d.Fields() },
		"After":         func(d *Dict) []api.Field { return d.After("a", 2) },
		"After all":     func(d *Dict) []api.Field { return d.After("", 9) },
		"After one":     func(d *Dict) []api.Field { return d.After("c", 1) },
		"After none":    func(d *Dict) []api.Field { return d.After("d", 1) },
		"After by none": func(d *Dict) []api.Field { return d.After("a", 0) },
	} {
		d := made(t, row...)
		all, list, behind, again := d.All(), d.Fields(), d.After("a", 2), ask(d)
		was := slices.Clone(again)
		spoil(ask(d))
		holds(t, what+" written over", d, row...)
		tells(t, what+": the Fields ahead", list, row...)
		tells(t, what+": the After ahead", behind, row[2:6]...)
		tells(t, what+": the All ahead", gone(all), row...)
		if !slices.Equal(again, was) {
			t.Errorf("%s ahead: %q, not %q", what, again, was)
		}
	}
}

// R4: an answer stays as it is, whatever is done to the dict behind it.
func TestAnswersStay(t *testing.T) {
	d := made(t, "a", "1", "b", "2", "c", "3")
	list, behind := d.Fields(), d.After("a", 1)
	d.Set("a", "x")
	d.Set("b", "y")
	d.Set("ab", "z")
	d.Incr("c", 1)
	d.Drop("a")
	d.Drop("b")
	tells(t, "Fields", list, "a", "1", "b", "2", "c", "3")
	tells(t, "After", behind, "b", "2")
	other, e := Of(list)
	if e != api.OK {
		t.Fatal(e)
	}
	d.Drop("c")
	holds(t, "Of of Fields", other, "a", "1", "b", "2", "c", "3")
	holds(t, "at the end", d, "ab", "z")
}

// R5: what is told does not hang on a map's order: dicts of the same fields, laid in any order, tell the same, again and again.
func TestAnyOrder(t *testing.T) {
	var want []string
	for i := range 200 {
		want = append(want, strconv.Itoa(1000+i), strconv.Itoa(i))
	}
	for seed := range int64(20) {
		d := made(t)
		for _, i := range rand.New(rand.NewSource(seed)).Perm(200) {
			d.Set(want[2*i], want[2*i+1])
		}
		for range 5 {
			tells(t, "Fields", d.Fields(), want...)
			tells(t, "All", gone(d.All()), want...)
			tells(t, "After", d.After("1099", 7), want[200:214]...)
			tells(t, "After a name that is not there", d.After("1099x", 1), want[200:202]...)
		}
	}
}

// Names that are there no more are not kept.
func TestLetGo(t *testing.T) {
	d := made(t, "a", "1")
	for i := range 100 {
		name := strconv.Itoa(i)
		d.Set(name, "v")
		d.Incr(name, 1)
		d.Incr(name+"n", 1)
		d.Drop(name)
		d.Drop(name + "n")
	}
	if len(d.held) != 1 {
		t.Errorf("kept: %d names", len(d.held))
	}
}

// Calls about single names of a large dict do not go over all of it.
func TestMuch(t *testing.T) {
	const many = 1 << 17
	d := made(t)
	for turn := range 3 {
		for i := range many {
			name := strconv.Itoa(i)
			if d.Set(name, name) != (turn == 0) {
				t.Fatalf("Set(%s) in turn %d", name, turn)
			}
			if n, e := d.Incr(name, turn); n != i+turn || e != api.OK {
				t.Fatalf("Incr(%s): %d %d", name, n, e)
			}
		}
	}
	list := d.Fields()
	if len(list) != many || d.Len() != many {
		t.Fatalf("%d fields, Len %d", len(list), d.Len())
	}
	for i := range many {
		name := strconv.Itoa(i)
		if value, ok := d.Get(name); value != strconv.Itoa(i+2) || !ok || !d.Drop(name) {
			t.Fatalf("Get(%s): %q %t", name, value, ok)
		}
	}
	back, e := Of(list)
	if e != api.OK || back.Len() != many || d.Len() != 0 {
		t.Errorf("Of of Fields: %d, Len %d and %d", e, back.Len(), d.Len())
	}
}
