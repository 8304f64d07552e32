package disk

import (
	"fmt"
	"math"
	"math/rand"
	"slices"
	"sort"
	"strings"
	"testing"

	"covenant/api"
)

// model is a disk by the chapter's words, told another way: the names are kept as they stood behind each open change, the lasting ones first.
type model struct {
	stood  []map[string]int // name: number of its file
	texts  []string
	synced []int
	plan   map[int]api.DiskFault
	steps  int
	down   bool
}

func newModel() *model {
	return &model{stood: []map[string]int{{}}, plan: map[int]api.DiskFault{}}
}

func (m *model) now() map[string]int {
	return m.stood[len(m.stood)-1]
}

// altered lays the names behind one more open change.
func (m *model) altered(alter func(names map[string]int)) {
	names := map[string]int{}
	for name, f := range m.now() {
		names[name] = f
	}
	alter(names)
	m.stood = append(m.stood, names)
}

// call is one call of a disk.
type call struct {
	what  string
	name  string
	to    string
	n     int
	plan  []api.DiskFault
	crash api.Crash
}

// refused is the error ahead of the planned fault.
func (m *model) refused(c call) api.Errno {
	if m.down {
		return api.ErrDown
	}
	if c.what == "syncnames" {
		return api.OK
	}
	if c.name == "" || c.what == "rename" && c.to == "" {
		return api.ErrArg
	}
	_, there := m.now()[c.name]
	if c.what == "create" && there {
		return api.ErrThere
	}
	if c.what != "create" && !there {
		return api.ErrFile
	}
	return api.OK
}

// bounded is a count as R7 says.
func bounded(n, all int) int {
	if n < 0 {
		return 0
	}
	if n > all {
		return all
	}
	return n
}

func (m *model) do(c call) (int, api.Errno) {
	if c.what == "crash" {
		m.crashed(c.crash)
		return 0, api.OK
	}
	if c.what == "plan" {
		return 0, m.planned(c.plan)
	}
	if e := m.refused(c); e != api.OK {
		return 0, e
	}
	m.steps++
	fault := m.plan[m.steps]
	switch {
	case fault.Kind == api.FaultDown:
		m.down = true
		return 0, api.ErrDown
	case fault.Kind == api.FaultShort && c.what == "append":
		laid := bounded(fault.N, len(c.to))
		m.texts[m.now()[c.name]] += c.to[:laid]
		return laid, api.ErrFault
	case fault.Kind != 0:
		return 0, api.ErrFault
	}
	return m.done(c), api.OK
}

func (m *model) done(c call) int {
	f := m.now()[c.name]
	switch c.what {
	case "create":
		m.texts, m.synced = append(m.texts, ""), append(m.synced, 0)
		m.altered(func(names map[string]int) { names[c.name] = len(m.texts) - 1 })
	case "append":
		m.texts[f] += c.to
		return len(c.to)
	case "truncate":
		m.texts[f] = m.texts[f][:bounded(c.n, len(m.texts[f]))]
		m.synced[f] = bounded(m.synced[f], len(m.texts[f]))
	case "sync":
		m.synced[f] = len(m.texts[f])
	case "rename":
		if c.name != c.to {
			m.altered(func(names map[string]int) { delete(names, c.name); names[c.to] = f })
		}
	case "remove":
		m.altered(func(names map[string]int) { delete(names, c.name) })
	case "syncnames":
		m.stood = m.stood[len(m.stood)-1:]
	}
	return 0
}

func (m *model) planned(l []api.DiskFault) api.Errno {
	plan := map[int]api.DiskFault{}
	last := m.steps
	for _, f := range l {
		if f.Step <= last || f.Kind < 1 || f.Kind > 3 || f.N < 0 || f.N > 0 && f.Kind != 2 {
			return api.ErrPlan
		}
		plan[f.Step], last = f, f.Step
	}
	if len(l) > 1024 {
		return api.ErrPlan
	}
	m.plan = plan
	return api.OK
}

func (m *model) crashed(c api.Crash) {
	names := m.stood[bounded(c.Names, len(m.stood)-1)]
	for i, name := range keys(names) {
		f, more := names[name], 0
		if len(c.Bytes) > 0 {
			more = bounded(c.Bytes[i%len(c.Bytes)], len(m.texts[f])-m.synced[f])
		}
		m.synced[f] += more
		m.texts[f] = m.texts[f][:m.synced[f]]
	}
	m.stood = []map[string]int{names}
	m.plan = map[int]api.DiskFault{}
	m.down = false
}

func keys(names map[string]int) []string {
	list := []string{}
	for name := range names {
		list = append(list, name)
	}
	sort.Strings(list)
	return list
}

// do is one call of the disk itself.
func do(d *Disk, c call) (int, api.Errno) {
	switch c.what {
	case "create":
		return 0, d.Create(c.name)
	case "append":
		return d.Append(c.name, c.to)
	case "truncate":
		return 0, d.Truncate(c.name, c.n)
	case "sync":
		return 0, d.Sync(c.name)
	case "rename":
		return 0, d.Rename(c.name, c.to)
	case "remove":
		return 0, d.Remove(c.name)
	case "syncnames":
		return 0, d.SyncNames()
	case "plan":
		return 0, d.Plan(c.plan)
	case "crash":
		d.Crash(c.crash)
	}
	return 0, api.OK
}

// few are the names that the scripts use.
var few = []string{"", "a", "b", "c"}

// told is all that a disk tells.
func told(d *Disk) string {
	var out strings.Builder
	for _, name := range few {
		text, e := d.Read(name)
		synced, f := d.Synced(name)
		fmt.Fprintf(&out, "%q: %q %d %d %d; ", name, text, e, synced, f)
	}
	fmt.Fprintf(&out, "names %q lasting %q steps %d down %t", d.Names(), d.Lasting(), d.Steps(), d.Down())
	return out.String()
}

// tells is all that a disk tells, by the model.
func (m *model) tells() string {
	var out strings.Builder
	for _, name := range few {
		e, text, synced := m.refused(call{what: "read", name: name}), "", 0
		if e == api.OK {
			text, synced = m.texts[m.now()[name]], m.synced[m.now()[name]]
		}
		fmt.Fprintf(&out, "%q: %q %d %d %d; ", name, text, e, synced, e)
	}
	names, lasting := keys(m.now()), keys(m.stood[0])
	if m.down {
		names, lasting = nil, nil
	}
	fmt.Fprintf(&out, "names %q lasting %q steps %d down %t", names, lasting, m.steps, m.down)
	return out.String()
}

// same runs one script on a disk and on the model; what both tell is held against each other behind each call from the given one on.
func same(t *testing.T, script []call, from int) {
	t.Helper()
	d, m := New(), newModel()
	for i, c := range script {
		n, e := do(d, c)
		wantN, wantE := m.do(c)
		if n != wantN || e != wantE {
			t.Fatalf("%+v: call %d: %d %d, not %d %d", script, i, n, e, wantN, wantE)
		}
		if i < from {
			continue
		}
		if got, want := told(d), m.tells(); got != want {
			t.Fatalf("%+v: behind call %d:\n%s\nnot\n%s", script, i, got, want)
		}
	}
}

// P5.2, 5.3, 5.5, 5.7: every script of few calls, and every crash behind it that leaves this or that.
func TestShortScripts(t *testing.T) {
	calls := []call{
		{what: "create", name: "a"}, {what: "create", name: "b"},
		{what: "append", name: "a", to: "xyz"}, {what: "append", name: "b", to: "uv"},
		{what: "truncate", name: "a", n: 1}, {what: "sync", name: "a"}, {what: "sync", name: "b"},
		{what: "rename", name: "a", to: "b"}, {what: "rename", name: "b", to: "a"}, {what: "rename", name: "a", to: "a"},
		{what: "remove", name: "a"}, {what: "syncnames"},
	}
	var crashes []call
	for names := 0; names <= 3; names++ {
		for _, bytes := range [][]int{nil, {1}, {0, 9}} {
			crashes = append(crashes, call{what: "crash", crash: api.Crash{Names: names, Bytes: bytes}})
		}
	}
	// Each script begins with a file that lasts, so that few calls reach much.
	script := []call{{what: "create", name: "a"}, {what: "append", name: "a", to: "old"}, {what: "sync", name: "a"}, {what: "syncnames"}}
	for _, first := range []int{0, 4} {
		var walk func(script []call, left int)
		walk = func(script []call, left int) {
			for _, c := range crashes {
				same(t, append(slices.Clone(script), c, call{what: "crash", crash: api.Crash{Names: 9, Bytes: []int{9}}}), len(script)-1)
			}
			if left == 0 {
				return
			}
			for _, c := range calls {
				walk(append(slices.Clone(script), c), left-1)
			}
		}
		walk(script[:first], 3)
	}
}

// anyCall is a call of any kind, most of them such that something comes of it.
func anyCall(r *rand.Rand, steps int) call {
	whats := []string{"create", "create", "append", "append", "append", "truncate", "sync", "sync", "rename", "rename", "remove", "syncnames", "plan", "crash"}
	c := call{what: whats[r.Intn(len(whats))], name: few[r.Intn(len(few))], to: few[r.Intn(len(few))]}
	sizes := []int{math.MinInt, -1, 0, 1, 2, 3, 5, 8, math.MaxInt}
	switch c.what {
	case "append":
		c.to = "0123456789"[:r.Intn(11)]
	case "truncate":
		c.n = sizes[r.Intn(len(sizes))]
	case "plan":
		for step := steps + r.Intn(3); len(c.plan) < 4; step += r.Intn(4) {
			c.plan = append(c.plan, api.DiskFault{Step: step, Kind: 1 + r.Intn(3), N: max(0, r.Intn(8)-4)})
		}
		c.plan = c.plan[:r.Intn(4)]
		for i, f := range c.plan {
			if f.Kind != api.FaultShort && r.Intn(8) > 0 {
				c.plan[i].N = 0
			}
		}
	case "crash":
		c.crash.Names = []int{math.MinInt, -1, 0, 1, 2, 3, math.MaxInt}[r.Intn(7)]
		for range r.Intn(4) {
			c.crash.Bytes = append(c.crash.Bytes, sizes[r.Intn(len(sizes))])
		}
	}
	return c
}

// P5.1 to 5.5: longer scripts of all calls, with plans and crashes.
func TestLongScripts(t *testing.T) {
	r := rand.New(rand.NewSource(5))
	for range 4000 {
		script := []call{}
		m := newModel()
		for range 40 {
			c := anyCall(r, m.steps)
			m.do(c)
			script = append(script, c)
		}
		same(t, script, 0)
	}
}

// touches are the names that a call changes, if it is done.
func touches(c call) []string {
	switch {
	case c.what == "create" || c.what == "remove":
		return []string{c.name}
	case c.what == "rename" && c.name != c.to:
		return []string{c.name, c.to}
	}
	return nil
}

// P5.7: a crash takes no synced byte of a lasting file whose name no open change touches, and leaves a beginning of it.
func TestWhatACrashNeverTakes(t *testing.T) {
	r := rand.New(rand.NewSource(57))
	held := 0
	for range 3000 {
		d := made("a", "b", "c")
		touched := []string{}
		for range r.Intn(12) {
			c := anyCall(r, d.Steps())
			if c.what == "crash" || c.what == "plan" {
				continue
			}
			if _, e := do(d, c); e == api.OK {
				touched = append(touched, touches(c)...)
				if c.what == "syncnames" {
					touched = nil
				}
			}
		}
		crash := anyCall(r, 0).crash
		texts, synced := map[string]string{}, map[string]int{}
		for _, name := range d.Lasting() {
			if !slices.Contains(touched, name) {
				texts[name], _ = d.Read(name)
				synced[name], _ = d.Synced(name)
			}
		}
		d.Crash(crash)
		for name, text := range texts {
			held++
			got, e := d.Read(name)
			if e != api.OK || len(got) < synced[name] || !strings.HasPrefix(text, got) {
				t.Fatalf("%v leaves %q %d of %q, %d of them synced", crash, got, e, text, synced[name])
			}
		}
	}
	if held < 3000 {
		t.Errorf("only %d files were held against what they were", held)
	}
}
