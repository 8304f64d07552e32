package disk

import (
	"math"
	"slices"
	"testing"

	"covenant/api"
)

// faults are those of a plan, each told by its three numbers: Step, Kind, N.
func faults(numbers ...int) []api.DiskFault {
	var l []api.DiskFault
	for row := range slices.Chunk(numbers, 3) {
		l = append(l, api.DiskFault{Step: row[0], Kind: row[1], N: row[2]})
	}
	return l
}

// P5.4: which plans may be.
func TestPlans(t *testing.T) {
	many := func(n int) []api.DiskFault {
		var l []api.DiskFault
		for i := range n {
			l = append(l, api.DiskFault{Step: 10 + i, Kind: api.FaultFail})
		}
		return l
	}
	for _, c := range []struct {
		plan []api.DiskFault
		want api.Errno
	}{
		{nil, api.OK},
		{[]api.DiskFault{}, api.OK},
		{many(1), api.OK},
		{many(1024), api.OK},
		{many(1025), api.ErrPlan},
		{faults(5, 1, 0), api.ErrPlan},
		{faults(6, 1, 0), api.OK},
		{faults(0, 1, 0), api.ErrPlan},
		{faults(-6, 1, 0), api.ErrPlan},
		{faults(math.MinInt, 1, 0), api.ErrPlan},
		{faults(math.MaxInt, 1, 0), api.OK},
		{faults(6, 1, 0, 7, 2, 0, 9, 3, 0), api.OK},
		{faults(6, 1, 0, 6, 2, 0), api.ErrPlan},
		{faults(7, 1, 0, 6, 2, 0), api.ErrPlan},
		{faults(6, 1, 0, 9, 2, 0, 8, 2, 0), api.ErrPlan},
		{faults(6, 0, 0), api.ErrPlan},
		{faults(6, 4, 0), api.ErrPlan},
		{faults(6, -1, 0), api.ErrPlan},
		{faults(6, 1, 1), api.ErrPlan},
		{faults(6, 3, 1), api.ErrPlan},
		{faults(6, 2, 1), api.OK},
		{faults(6, 2, math.MaxInt), api.OK},
		{faults(6, 1, -1), api.ErrPlan},
		{faults(6, 2, -1), api.ErrPlan},
		{faults(6, 3, -1), api.ErrPlan},
		{faults(6, 1, 0, 7, 1, 2), api.ErrPlan},
	} {
		d := made("a")
		wants(t, "an earlier plan", d.Plan(faults(6, api.FaultShort, 2)), api.OK)
		wants(t, "Plan", d.Plan(c.plan), c.want)
		n, e := d.Append("a", "xyz")
		switch {
		// R2: a plan that is refused leaves the earlier one.
		case c.want == api.ErrPlan && (n != 2 || e != api.ErrFault):
			t.Errorf("%v: the earlier plan is gone: %d %d", c.plan, n, e)
		case c.want == api.OK && (len(c.plan) == 0 || c.plan[0].Step > 6) && (n != 3 || e != api.OK):
			t.Errorf("%v: the earlier plan stands still: %d %d", c.plan, n, e)
		}
	}
}

// stepsOf are all calls that are steps, each as one that is not refused on the disk that made("a") gives.
func stepsOf(d *Disk) map[string]func() (int, api.Errno) {
	return map[string]func() (int, api.Errno){
		"Create":    func() (int, api.Errno) { return 0, d.Create("b") },
		"Append":    func() (int, api.Errno) { return d.Append("a", "xyz") },
		"Truncate":  func() (int, api.Errno) { return 0, d.Truncate("a", 1) },
		"Sync":      func() (int, api.Errno) { return 0, d.Sync("a") },
		"Rename":    func() (int, api.Errno) { return 0, d.Rename("a", "b") },
		"Itself":    func() (int, api.Errno) { return 0, d.Rename("a", "a") },
		"Remove":    func() (int, api.Errno) { return 0, d.Remove("a") },
		"SyncNames": func() (int, api.Errno) { return 0, d.SyncNames() },
	}
}

// P5.4: each kind of fault at each step: what it answers, that nothing is done but what falls short, and that it comes once.
func TestEachFaultAtEachStep(t *testing.T) {
	for what := range stepsOf(nil) {
		for _, fault := range faults(7, 1, 0, 7, 2, 0, 7, 2, 2, 7, 2, 3, 7, 2, 4, 7, 2, math.MaxInt, 7, 3, 0) {
			d := made("a")
			d.Create("c")
			wants(t, "Plan", d.Plan([]api.DiskFault{fault}), api.OK)
			n, e := stepsOf(d)[what]()
			laid, want := 0, api.ErrFault
			if fault.Kind == api.FaultDown {
				want = api.ErrDown
			}
			if what == "Append" {
				laid = min(fault.N, 3)
			}
			if n != laid || e != want || d.Steps() != 7 || d.Down() != (fault.Kind == api.FaultDown) {
				t.Errorf("%s, %v: %d %d, Steps %d, Down %t", what, fault, n, e, d.Steps(), d.Down())
			}
			if d.Down() {
				downTellsNothing(t, d)
				d.Crash(api.Crash{Names: 1, Bytes: []int{9}})
				named(t, d, "a c", "a c")
				holds(t, d, "a", "aaa", 3)
				continue
			}
			named(t, d, "a c", "a")
			holds(t, d, "a", "aaa"+"xyz"[:laid], 2)
			if _, e := stepsOf(d)[what](); e != api.OK || d.Steps() != 8 {
				t.Errorf("%s, %v: again: %d, Steps %d", what, fault, e, d.Steps())
			}
		}
	}
}

// downTellsNothing: P5.1, 5.3, 5.4: a disk that is down refuses all and tells no name; its steps go on to be told, none is counted, and a plan may be made.
func downTellsNothing(t *testing.T, d *Disk) {
	t.Helper()
	steps := d.Steps()
	for what, ask := range callsWithNames(d) {
		for _, name := range []string{"", "a", "b"} {
			wants(t, what, ask(name), api.ErrDown)
		}
	}
	wants(t, "SyncNames", d.SyncNames(), api.ErrDown)
	text, _ := d.Read("a")
	synced, _ := d.Synced("a")
	laid, _ := d.Append("a", "x")
	if text != "" || synced != 0 || laid != 0 || len(d.Names()) != 0 || len(d.Lasting()) != 0 {
		t.Errorf("a disk that is down tells %q %d %d %q %q", text, synced, laid, d.Names(), d.Lasting())
	}
	wants(t, "Plan", d.Plan([]api.DiskFault{{Step: steps, Kind: api.FaultFail}}), api.ErrPlan)
	wants(t, "Plan", d.Plan([]api.DiskFault{{Step: steps + 1, Kind: api.FaultFail}}), api.OK)
	if d.Steps() != steps || !d.Down() {
		t.Errorf("Steps %d, not %d, Down %t", d.Steps(), steps, d.Down())
	}
}

// P5.4: several faults of one plan come each at its step; calls that are refused, and those that read, bring none nearer.
func TestSeveralFaults(t *testing.T) {
	d := New()
	d.Plan(faults(2, api.FaultFail, 0, 3, api.FaultShort, 1, 6, api.FaultDown, 0))
	var got []api.Errno
	add := func(e api.Errno) { got = append(got, e) }
	add(d.Create("a")) // 1
	add(d.Create("a"))
	add(d.Create(""))
	add(d.Remove("b"))
	d.Read("a")
	d.Names()
	add(d.Create("b")) // 2
	_, e := d.Append("a", "xyz")
	add(e) // 3
	_, e = d.Append("a", "")
	add(e)                // 4
	add(d.SyncNames())    // 5
	add(d.Rename("", "")) // refused
	add(d.Sync("a"))      // 6
	add(d.Sync("a"))
	want := []api.Errno{api.OK, api.ErrThere, api.ErrArg, api.ErrFile, api.ErrFault, api.ErrFault, api.OK, api.OK, api.ErrArg, api.ErrDown, api.ErrDown}
	if !slices.Equal(got, want) || d.Steps() != 6 {
		t.Errorf("%v, not %v; Steps %d", got, want, d.Steps())
	}
	d.Crash(api.Crash{Bytes: []int{9}})
	holds(t, d, "a", "x", 1)
}

// lasting is a disk with the lasting files a (ab of abcde synced), b (none of uvw) and c (all of xyz).
func lasting() *Disk {
	d := New()
	for _, name := range []string{"c", "a", "b"} {
		d.Create(name)
	}
	d.Append("a", "ab")
	d.Append("c", "xyz")
	d.Sync("a")
	d.Sync("c")
	d.Append("a", "cde")
	d.Append("b", "uvw")
	d.SyncNames()
	return d
}

// P5.5: what Bytes leaves: empty, shorter than the files, as long, longer; below 0, and past what there is.
func TestCrashBytes(t *testing.T) {
	for _, c := range []struct {
		bytes []int
		a, b  string
	}{
		{nil, "ab", ""},
		{[]int{}, "ab", ""},
		{[]int{0}, "ab", ""},
		{[]int{1}, "abc", "u"},
		{[]int{3}, "abcde", "uvw"},
		{[]int{math.MaxInt}, "abcde", "uvw"},
		{[]int{math.MinInt}, "ab", ""},
		{[]int{-1, 2}, "ab", "uv"},
		{[]int{2, -1}, "abcd", ""},
		{[]int{1, 2, 9}, "abc", "uv"},
		{[]int{0, 1, 0, 5}, "ab", "u"},
	} {
		d := lasting()
		d.Crash(api.Crash{Bytes: c.bytes})
		named(t, d, "a b c", "a b c")
		holds(t, d, "a", c.a, len(c.a))
		holds(t, d, "b", c.b, len(c.b))
		holds(t, d, "c", "xyz", 3)
	}
}

// P5.5: files are counted by the names that outlive the crash, modulo the length of Bytes.
func TestCrashCountsFiles(t *testing.T) {
	d := New()
	for _, name := range []string{"e", "d", "c", "b", "a"} {
		d.Create(name)
		d.Append(name, "0123456789")
	}
	d.SyncNames()
	d.Remove("b")
	d.Rename("a", "f")
	d.Crash(api.Crash{Names: 1, Bytes: []int{1, 2, 3}})
	named(t, d, "a c d e", "a c d e")
	for name, n := range map[string]int{"a": 1, "c": 2, "d": 3, "e": 1} {
		holds(t, d, name, "0123456789"[:n], n)
	}
}

// P5.5: how many open changes outlive a crash.
func TestCrashNames(t *testing.T) {
	for names, want := range map[int]string{
		math.MinInt: "a b c", -1: "a b c", 0: "a b c", 1: "a b c d", 2: "b c d", 3: "b d", 4: "b d e", 5: "b d e", math.MaxInt: "b d e",
	} {
		d := lasting()
		d.Create("d")
		d.Rename("a", "b")
		d.Remove("c")
		d.Create("e")
		d.Append("d", "12")
		d.Sync("d")
		d.Crash(api.Crash{Names: names})
		named(t, d, want, want)
		b := ""
		if names >= 2 {
			b = "ab"
		}
		holds(t, d, "b", b, len(b))
		if names >= 1 {
			holds(t, d, "d", "12", 2)
		}
	}
}

// P5.5: behind a crash there is no plan, the disk is not down, steps go on being counted, and nothing of what is gone comes back.
func TestBehindCrash(t *testing.T) {
	d := lasting()
	steps := d.Steps()
	d.Create("d")
	d.Plan(faults(steps+2, api.FaultDown, 0, steps+3, api.FaultFail, 0))
	wants(t, "Remove", d.Remove("a"), api.ErrDown)
	d.Plan(faults(steps+3, api.FaultFail, 0))
	d.Crash(api.Crash{})
	if d.Down() || d.Steps() != steps+2 {
		t.Errorf("Down %t, Steps %d", d.Down(), d.Steps())
	}
	named(t, d, "a b c", "a b c")
	wants(t, "Append", func() api.Errno { _, e := d.Append("a", "!"); return e }(), api.OK)
	holds(t, d, "a", "ab!", 2)
	wants(t, "Create", d.Create("d"), api.OK)
	holds(t, d, "d", "", 0)
	d.Crash(api.Crash{Names: 9, Bytes: []int{9}})
	named(t, d, "a b c d", "a b c d")
	holds(t, d, "a", "ab!", 3)
}

// P5.7: a second crash behind one changes nothing, whatever it is told.
func TestSecondCrash(t *testing.T) {
	for _, first := range []api.Crash{{}, {Names: 1, Bytes: []int{1}}, {Names: 9, Bytes: []int{9}}} {
		for _, second := range []api.Crash{{}, {Names: -1, Bytes: []int{-1}}, {Names: 9, Bytes: []int{9, 0}}} {
			d := lasting()
			d.Create("d")
			d.Remove("a")
			d.Crash(first)
			before := told(d)
			d.Crash(second)
			if got := told(d); got != before {
				t.Errorf("%v, %v: %s, not %s", first, second, got, before)
			}
		}
	}
}

// The chapter's first example.
func TestFirstExample(t *testing.T) {
	for _, c := range []struct {
		names bool
		bytes []int
		want  string
	}{{false, nil, ""}, {true, nil, "xy"}, {true, []int{5}, "xyz"}} {
		d := New()
		d.Create("a")
		if n, e := d.Append("a", "xy"); n != 2 || e != api.OK {
			t.Errorf("Append: %d %d", n, e)
		}
		d.Sync("a")
		d.Append("a", "z")
		steps := 4
		if c.names {
			d.SyncNames()
			steps = 5
		}
		if d.Steps() != steps {
			t.Errorf("Steps: %d, not %d", d.Steps(), steps)
		}
		d.Crash(api.Crash{Bytes: c.bytes})
		if !c.names {
			named(t, d, "", "")
			continue
		}
		holds(t, d, "a", c.want, len(c.want))
	}
}

// The chapter's second example.
func TestSecondExample(t *testing.T) {
	for names, want := range []string{"a old", "a old b new", "a new"} {
		d := New()
		d.Create("a")
		d.Append("a", "old")
		d.Sync("a")
		d.SyncNames()
		d.Create("b")
		d.Append("b", "new")
		d.Sync("b")
		d.Rename("b", "a")
		d.Crash(api.Crash{Names: names})
		got := ""
		for _, name := range d.Names() {
			text, _ := d.Read(name)
			got += " " + name + " " + text
		}
		if got != " "+want {
			t.Errorf("Names %d: %q, not %q", names, got, want)
		}
	}
}

// The chapter's third example.
func TestThirdExample(t *testing.T) {
	d := New()
	d.Plan(faults(3, api.FaultShort, 1))
	d.Create("a")
	if n, e := d.Append("a", "x"); n != 1 || e != api.OK {
		t.Errorf("Append: %d %d", n, e)
	}
	if n, e := d.Append("a", "yz"); n != 1 || e != api.ErrFault {
		t.Errorf("Append: %d %d", n, e)
	}
	holds(t, d, "a", "xy", 0)

	d = New()
	d.Create("a")
	d.Plan(faults(2, api.FaultDown, 0))
	wants(t, "Sync", d.Sync("a"), api.ErrDown)
	_, e := d.Read("a")
	wants(t, "Read", e, api.ErrDown)
}
