package disk

import (
	"math"
	"slices"
	"strings"
	"testing"
	"unsafe"

	"covenant/api"
)

// wants fails unless a call answered this error.
func wants(t *testing.T, what string, got, want api.Errno) {
	t.Helper()
	if got != want {
		t.Errorf("%s: %d, not %d", what, got, want)
	}
}

// holds fails unless a file has this text, of which so many bytes are synced.
func holds(t *testing.T, d *Disk, name, text string, synced int) {
	t.Helper()
	got, e := d.Read(name)
	n, f := d.Synced(name)
	if got != text || e != api.OK || n != synced || f != api.OK {
		t.Errorf("%q: %q %d, synced %d %d; not %q, synced %d", name, got, e, n, f, text, synced)
	}
}

// named fails unless these are the names, and these the lasting ones (told with blanks between).
func named(t *testing.T, d *Disk, names, lasting string) {
	t.Helper()
	if got := strings.Join(d.Names(), " "); got != names {
		t.Errorf("Names: %q, not %q", got, names)
	}
	if got := strings.Join(d.Lasting(), " "); got != lasting {
		t.Errorf("Lasting: %q, not %q", got, lasting)
	}
}

// made is a disk with a lasting file of each name: its text is the name three times, the first two bytes synced.
func made(names ...string) *Disk {
	d := New()
	for _, name := range names {
		d.Create(name)
		d.Append(name, name+name)
		d.Sync(name)
		d.Append(name, name)
	}
	d.SyncNames()
	return d
}

// shares says whether two texts have a byte of memory together.
func shares(a, b string) bool {
	if a == "" || b == "" {
		return false
	}
	x, y := uintptr(unsafe.Pointer(unsafe.StringData(a))), uintptr(unsafe.Pointer(unsafe.StringData(b)))
	return x < y+uintptr(len(b)) && y < x+uintptr(len(a))
}

// callsWithNames are all calls with a name, each told by the name (of Rename: from) alone.
func callsWithNames(d *Disk) map[string]func(name string) api.Errno {
	return map[string]func(name string) api.Errno{
		"Create":   d.Create,
		"Append":   func(name string) api.Errno { _, e := d.Append(name, "more"); return e },
		"Truncate": func(name string) api.Errno { return d.Truncate(name, 1) },
		"Sync":     d.Sync,
		"Rename":   func(name string) api.Errno { return d.Rename(name, "to") },
		"Rename2":  func(name string) api.Errno { return d.Rename(name, "") },
		"Remove":   d.Remove,
		"Read":     func(name string) api.Errno { _, e := d.Read(name); return e },
		"Synced":   func(name string) api.Errno { _, e := d.Synced(name); return e },
	}
}

// P5.1: a new disk has no files, no steps, no plan, and is not down.
func TestNew(t *testing.T) {
	d := New()
	named(t, d, "", "")
	if d.Steps() != 0 || d.Down() {
		t.Errorf("Steps %d, Down %t", d.Steps(), d.Down())
	}
	wants(t, "Create", d.Create("a"), api.OK)
	other := New()
	named(t, other, "", "")
}

// P5.1: the errors of all calls with a name, where one, two or three of them and a planned fault are due at once; none of them is a step or changes anything.
func TestErrors(t *testing.T) {
	for _, down := range []bool{false, true} {
		for _, name := range []string{"", "a", "b"} {
			for what := range callsWithNames(New()) {
				d := made("a")
				if down {
					d.Plan([]api.DiskFault{{Step: d.Steps() + 1, Kind: api.FaultDown}})
					d.SyncNames()
				}
				d.Plan([]api.DiskFault{{Step: d.Steps() + 1, Kind: api.FaultFail}})
				want := api.ErrFault
				switch {
				case down:
					want = api.ErrDown
				case name == "" || what == "Rename2":
					want = api.ErrArg
				case what == "Create" && name == "a":
					want = api.ErrThere
				case what != "Create" && name == "b":
					want = api.ErrFile
				case what == "Read" || what == "Synced":
					want = api.OK
				}
				steps := d.Steps()
				if want == api.ErrFault {
					steps++
				}
				before := told(d)
				wants(t, what+" of "+name, callsWithNames(d)[what](name), want)
				if d.Steps() != steps {
					t.Errorf("%s of %q: Steps %d, not %d", what, name, d.Steps(), steps)
				}
				if want != api.ErrFault && told(d) != before {
					t.Errorf("%s of %q changed %s into %s", what, name, before, told(d))
				}
			}
		}
	}
}

// P5.1: SyncNames has no name; it is refused while the disk is down alone.
func TestSyncNamesErrors(t *testing.T) {
	d := New()
	wants(t, "SyncNames", d.SyncNames(), api.OK)
	d.Plan([]api.DiskFault{{Step: 2, Kind: api.FaultDown}})
	wants(t, "SyncNames", d.SyncNames(), api.ErrDown)
	wants(t, "SyncNames", d.SyncNames(), api.ErrDown)
	if d.Steps() != 2 {
		t.Errorf("Steps: %d", d.Steps())
	}
}

// P5.2: Append says how many bytes were laid, none of no bytes; any byte may be.
func TestAppend(t *testing.T) {
	d := New()
	d.Create("a")
	holds(t, d, "a", "", 0)
	for _, s := range []string{"", "xy", "", "\x00\xff\r\n", strings.Repeat("long", 1000)} {
		before, _ := d.Read("a")
		n, e := d.Append("a", s)
		if n != len(s) || e != api.OK {
			t.Errorf("Append of %d bytes: %d %d", len(s), n, e)
		}
		holds(t, d, "a", before+s, 0)
	}
	if d.Steps() != 6 {
		t.Errorf("Steps: %d", d.Steps())
	}
}

// P5.2: Truncate below, at and above the length and the synced bytes; it lasts at once, and what stood behind does not come back.
func TestTruncate(t *testing.T) {
	for _, c := range []struct {
		n      int
		text   string
		synced int
	}{
		{math.MinInt, "", 0}, {-1, "", 0}, {0, "", 0}, {1, "0", 1}, {2, "01", 2}, {3, "012", 3}, {4, "0123", 3},
		{5, "01234", 3}, {6, "01234", 3}, {math.MaxInt, "01234", 3},
	} {
		d := New()
		d.Create("a")
		d.Append("a", "012")
		d.Sync("a")
		d.Append("a", "34")
		d.SyncNames()
		wants(t, "Truncate", d.Truncate("a", c.n), api.OK)
		holds(t, d, "a", c.text, c.synced)
		if d.Steps() != 6 {
			t.Errorf("Steps: %d", d.Steps())
		}
		d.Append("a", "!")
		holds(t, d, "a", c.text+"!", c.synced)
		d.Crash(api.Crash{})
		holds(t, d, "a", c.text[:c.synced], c.synced)
	}
}

// P5.2: Sync makes all bytes synced ones, of this file alone, and no name lasting.
func TestSync(t *testing.T) {
	d := made("a", "b")
	d.Create("c")
	d.Append("c", "new")
	wants(t, "Sync", d.Sync("a"), api.OK)
	wants(t, "Sync", d.Sync("c"), api.OK)
	wants(t, "Sync", d.Sync("c"), api.OK)
	holds(t, d, "a", "aaa", 3)
	holds(t, d, "b", "bbb", 2)
	holds(t, d, "c", "new", 3)
	named(t, d, "a b c", "a b")
	if d.Steps() != 9+5 {
		t.Errorf("Steps: %d", d.Steps())
	}
}

// P5.2: Rename to a name that there is not, over another one, and of a name to itself, which is a step and no change.
func TestRename(t *testing.T) {
	d := made("a", "b")
	wants(t, "Rename", d.Rename("a", "c"), api.OK)
	named(t, d, "b c", "a b")
	holds(t, d, "c", "aaa", 2)
	wants(t, "Rename", d.Rename("c", "b"), api.OK)
	named(t, d, "b", "a b")
	holds(t, d, "b", "aaa", 2)
	_, e := d.Read("c")
	wants(t, "Read", e, api.ErrFile)
	steps := d.Steps()
	wants(t, "Rename", d.Rename("b", "b"), api.OK)
	wants(t, "Rename", d.Rename("a", "a"), api.ErrFile)
	holds(t, d, "b", "aaa", 2)
	if d.Steps() != steps+1 {
		t.Errorf("Steps: %d, not %d", d.Steps(), steps+1)
	}

	d = made("a")
	d.Rename("a", "a")
	d.Create("b")
	d.Crash(api.Crash{Names: 1})
	named(t, d, "a b", "a b")
}

// P5.2: a file goes on under its new name; a name that is created again leads to another file.
func TestFilesBehindNames(t *testing.T) {
	d := made("a")
	d.Rename("a", "b")
	d.Append("b", "!")
	d.Sync("b")
	d.Create("a")
	d.Append("a", "new")
	holds(t, d, "b", "aaa!", 4)
	holds(t, d, "a", "new", 0)
	d.Crash(api.Crash{Names: 0})
	named(t, d, "a", "a")
	holds(t, d, "a", "aaa!", 4)
	d.Remove("a")
	d.Create("a")
	holds(t, d, "a", "", 0)
	d.Crash(api.Crash{Names: 1})
	named(t, d, "", "")
}

// P5.2, 5.3: Names and Lasting ahead of and behind SyncNames, with several open changes; both rise byte by byte.
func TestSyncNames(t *testing.T) {
	d := made("b", "a")
	named(t, d, "a b", "a b")
	d.Create("\xff")
	d.Create("B")
	d.Create("ab")
	d.Remove("b")
	d.Rename("a", "z")
	d.Create("b")
	named(t, d, "B ab b z \xff", "a b")
	steps := d.Steps()
	wants(t, "SyncNames", d.SyncNames(), api.OK)
	named(t, d, "B ab b z \xff", "B ab b z \xff")
	holds(t, d, "z", "aaa", 2)
	holds(t, d, "b", "", 0)
	wants(t, "SyncNames", d.SyncNames(), api.OK)
	if d.Steps() != steps+2 {
		t.Errorf("Steps: %d, not %d", d.Steps(), steps+2)
	}
	d.Crash(api.Crash{})
	named(t, d, "B ab b z \xff", "B ab b z \xff")
}

// P5.3: what reads is no step, whatever it answers, and changes nothing.
func TestReading(t *testing.T) {
	d := made("a")
	before := told(d)
	for range 3 {
		d.Read("a")
		d.Read("b")
		d.Read("")
		d.Synced("a")
		d.Synced("b")
		d.Names()
		d.Lasting()
		d.Steps()
		d.Down()
	}
	if got := told(d); got != before {
		t.Errorf("%s, not %s", got, before)
	}
	text, e := d.Read("b")
	if n, f := d.Synced("b"); text != "" || n != 0 || e != api.ErrFile || f != api.ErrFile {
		t.Errorf("%q %d, %d %d", text, e, n, f)
	}
	if d.Steps() != 5 {
		t.Errorf("Steps: %d", d.Steps())
	}
}

// P5.6: a nil disk.
func TestNil(t *testing.T) {
	var d *Disk
	for what, ask := range callsWithNames(d) {
		for _, name := range []string{"", "a"} {
			wants(t, what, ask(name), api.ErrDown)
		}
	}
	wants(t, "SyncNames", d.SyncNames(), api.ErrDown)
	wants(t, "Plan", d.Plan(nil), api.ErrDown)
	wants(t, "Plan", d.Plan([]api.DiskFault{{Step: -1}}), api.ErrDown)
	if n, e := d.Append("a", "x"); n != 0 || e != api.ErrDown {
		t.Errorf("Append: %d %d", n, e)
	}
	d.Crash(api.Crash{Names: 1, Bytes: []int{1}})
	if d.Down() || d.Steps() != 0 || len(d.Names()) != 0 || len(d.Lasting()) != 0 {
		t.Errorf("Down %t, Steps %d, %q, %q", d.Down(), d.Steps(), d.Names(), d.Lasting())
	}
}

// R4: what is handed in may change behind the call: none of it is kept.
func TestNothingHandedInIsKept(t *testing.T) {
	d := New()
	// Texts over bytes that change: a stand-in for memory that the caller uses again.
	room := []byte("first first first")
	text := func(s string) string {
		copy(room, s)
		return unsafe.String(&room[0], len(s))
	}
	d.Create(text("name one"))
	d.Create(text("name two"))
	d.Append("name one", text("what is laid"))
	d.Rename("name two", text("name three"))
	d.Create("name four")
	d.SyncNames()
	d.Remove(text("name four"))
	from := []byte("name three")
	d.Rename(unsafe.String(&from[0], len(from)), "name five")
	copy(from, "-----")
	text("-----------------")
	named(t, d, "name five name one", "name four name one name three")
	if got, _ := d.Read("name one"); got != "what is laid" {
		t.Errorf("Read: %q", got)
	}
	d.Crash(api.Crash{Names: 2})
	named(t, d, "name five name one", "name five name one")

	plan := make([]api.DiskFault, 1, 3)
	plan[0] = api.DiskFault{Step: d.Steps() + 1, Kind: api.FaultFail}
	wants(t, "Plan", d.Plan(plan), api.OK)
	plan[0] = api.DiskFault{}
	wants(t, "Create", d.Create("x"), api.ErrFault)
	bytes := []int{7, -3, 9}
	d.Crash(api.Crash{Names: -2, Bytes: bytes[:2]})
	if !slices.Equal(bytes, []int{7, -3, 9}) || plan[0] != (api.DiskFault{}) {
		t.Errorf("what was handed in was changed: %v %v", bytes, plan)
	}
}

// R4: what is handed out is new memory.
func TestNothingHandedOutIsShared(t *testing.T) {
	d := New()
	d.Create("a longer name")
	d.Append("a longer name", "a longer text")
	d.SyncNames()
	texts := [][]string{d.Names(), d.Names(), d.Lasting(), d.Lasting()}
	for range 2 {
		text, _ := d.Read("a longer name")
		texts = append(texts, []string{text})
	}
	for i, one := range texts {
		for _, other := range texts[:i] {
			if shares(one[0], other[0]) {
				t.Errorf("%q shares memory with %q", one, other)
			}
		}
	}
	for kept := range d.names {
		for _, one := range texts[:4] {
			if shares(kept, one[0]) {
				t.Errorf("%q shares memory with what is kept", one)
			}
		}
	}
	for _, list := range texts[:4] {
		room := list[:cap(list)]
		for i := range room {
			room[i] = "spoilt"
		}
	}
	named(t, d, "a longer name", "a longer name")
	first, _ := d.Read("a longer name")
	d.Truncate("a longer name", 2)
	d.Append("a longer name", "!!!!!!!!!!!!!")
	if first != "a longer text" {
		t.Errorf("a text that was handed out became %q", first)
	}
}

// A file of many appends, and many changes of names, take their time once.
func TestMuch(t *testing.T) {
	d := New()
	d.Create("a")
	for range 1 << 20 {
		d.Append("a", "xyz")
	}
	for range 1 << 16 {
		d.Create("b")
		d.Rename("b", "c")
		d.Remove("c")
	}
	d.Crash(api.Crash{Names: math.MaxInt, Bytes: []int{math.MaxInt}})
	named(t, d, "a", "a")
	if n, _ := d.Synced("a"); n != 3<<20 || d.Steps() != 1+1<<20+3<<16 {
		t.Errorf("synced %d, Steps %d", n, d.Steps())
	}
}
