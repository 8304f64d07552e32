package space

import (
	"encoding/binary"
	"fmt"
	"math"
	"strings"
	"testing"

	"covenant/api"
	"covenant/value"
)

// entry is one with a string.
func entry(key, text string, due int, version uint64) api.Entry {
	return api.Entry{Key: key, Value: aText(text), Due: due, Version: version}
}

// modelBytes is the bytes of entries by the chapter's words, written by the library.
func modelBytes(l []api.Entry) string {
	var out []byte
	for _, e := range l {
		out = binary.LittleEndian.AppendUint64(out, uint64(len(e.Key)))
		out = append(out, e.Key...)
		out = binary.LittleEndian.AppendUint64(out, uint64(e.Due))
		bytes, _ := value.Encode(e.Value)
		out = append(out, bytes...)
	}
	return string(out)
}

// P14.6: all that are there, seen or not, by rising keys.
func TestEntries(t *testing.T) {
	s := New()
	var want []api.Entry
	for i, v := range good() {
		key := fmt.Sprint(10 + i)
		want = append(want, api.Entry{Key: key, Value: v, Due: i % 3, Version: uint64(len(good()) - i)})
	}
	for i := len(want) - 1; i >= 0; i-- {
		s.Put(want[i].Key, want[i].Value, want[i].Due)
	}
	holds(t, "Entries", s, row(want)+fmt.Sprintf("/%d", len(want)))
	for i, e := range s.Entries() {
		if !value.Same(e.Value, want[i].Value) {
			t.Errorf("%s: %s", e.Key, show(e.Value))
		}
	}
}

// P14.6: Load in place of what was there, and the counter behind it.
func TestLoad(t *testing.T) {
	const most = 1 << 62
	for what, l := range map[string][]api.Entry{
		"none":                    nil,
		"none, of no length":      {},
		"one":                     {entry("k", "v", 0, 1)},
		"the empty key":           {entry("", "v", 1, 7)},
		"the greatest first":      {entry("a", "1", 0, 9), entry("b", "2", 5, 3), entry("c", "3", 5, 4)},
		"the greatest last":       {entry("a", "1", 5, 1), entry("b", "2", 0, 3), entry("c", "3", 2, 40)},
		"one version twice":       {entry("a", "1", 0, 3), entry("b", "2", 0, 3)},
		"the last version":        {entry("a", "1", 0, most), entry("b", "2", 0, 1)},
		"one below it":            {entry("a", "1", 0, most-1)},
		"the last deadline":       {entry("a", "1", top, 1), entry("a\x00", "2", 1, 2), entry("\xff", "3", 0, 3)},
		"as many as those loaded": {entry("a", "other", 5, 1), entry("b", "other", 0, 2), entry("c", "other", 9, 3)},
	} {
		for _, s := range []*Space{New(), made(t), cleared(t)} {
			if e := s.Load(l); e != api.OK {
				t.Errorf("%s: %d", what, e)
				continue
			}
			var counter uint64
			for _, e := range l {
				counter = max(counter, e.Version)
			}
			holds(t, what, s, row(l)+fmt.Sprintf("/%d", counter))
			is(t, what+": Bytes", s.Bytes(), modelBytes(l))
			stale := 0
			for _, e := range l {
				if e.Due > 0 && e.Due <= 5 {
					stale++
				}
				if s.Over(e.Key, 5) != (e.Due > 0 && e.Due <= 5) || s.Version(e.Key) != e.Version {
					t.Errorf("%s: %q: Over %t, Version %d", what, e.Key, s.Over(e.Key, 5), s.Version(e.Key))
				}
			}
			if got := s.Stale(5, 99); len(got) != stale || s.Len(5) != len(l)-stale {
				t.Errorf("%s: Stale %q, Len %d", what, got, s.Len(5))
			}
			s.Put("a", aText("behind"), 0)
			if s.Version("a") != counter+1 || s.Counter() != counter+1 {
				t.Errorf("%s: a touch behind Load: %s", what, told(s))
			}
			if s.Keep() != api.ErrMark || s.Mark() != api.OK {
				t.Errorf("%s: a mark stands", what)
			}
		}
	}
}

// cleared is a space without keys whose counter is not 0.
func cleared(t *testing.T) *Space {
	s := made(t)
	s.Clear()
	return s
}

// P14.6: Load of every kind of value.
func TestLoadKinds(t *testing.T) {
	var l []api.Entry
	for i, v := range good() {
		l = append(l, api.Entry{Key: fmt.Sprint(10 + i), Value: v, Due: i, Version: uint64(1 + i)})
	}
	s := New()
	if e := s.Load(l); e != api.OK {
		t.Fatalf("Load: %d", e)
	}
	for i, e := range s.Entries() {
		if e.Key != l[i].Key || e.Due != l[i].Due || e.Version != l[i].Version || !value.Same(e.Value, l[i].Value) {
			t.Errorf("%v, not %v", e, l[i])
		}
	}
	other := New()
	if e := other.Load(s.Entries()); e != api.OK || whole(other) != whole(s) {
		t.Errorf("Load of Entries: %d, %s", e, told(other))
	}
}

// P14.6: entries that may not be, wherever among others they stand, change nothing.
func TestLoadRefused(t *testing.T) {
	spoilt := map[string]api.Entry{
		"Version 0":          entry("k", "v", 0, 0),
		"Version above":      entry("k", "v", 0, 1<<62+1),
		"Version far above":  entry("k", "v", 0, 1<<63),
		"the last number":    entry("k", "v", 0, math.MaxUint64),
		"all of it is zero":  {},
		"Version 0, with it": entry("k", "v", 5, 0),
	}
	for what, c := range refused() {
		spoilt[what] = api.Entry{Key: "k", Value: c.v, Version: 1}
	}
	for _, due := range noDeadlines() {
		spoilt["the deadline "+fmt.Sprint(due)] = entry("k", "v", due, 1)
	}
	lists := map[string][]api.Entry{
		"keys that fall":            {entry("b", "v", 0, 1), entry("a", "v", 0, 2)},
		"a key twice":               {entry("a", "v", 0, 1), entry("a", "v", 0, 2)},
		"the same twice":            {entry("a", "v", 0, 1), entry("a", "v", 0, 1)},
		"the empty key twice":       {entry("", "v", 0, 1), entry("", "v", 0, 2)},
		"keys that fall at the end": {entry("a", "v", 0, 1), entry("c", "v", 0, 2), entry("b", "v", 0, 3)},
		"keys that fall at first":   {entry("b", "v", 0, 1), entry("a", "v", 0, 2), entry("c", "v", 0, 3)},
		"the empty key last":        {entry("a", "v", 0, 1), entry("", "v", 0, 2)},
		"the shorter one last":      {entry("a\x00", "v", 0, 1), entry("a", "v", 0, 2)},
		"a great byte first":        {entry("\xff", "v", 0, 1), entry("\x7f", "v", 0, 2)},
	}
	for what, e := range spoilt {
		lists[what] = []api.Entry{e}
		lists[what+", the first"] = []api.Entry{e, entry("z", "v", 0, 1)}
		lists[what+", the last"] = []api.Entry{entry("", "v", 0, 1), e}
		lists[what+", the second of three"] = []api.Entry{entry("", "v", 0, 1), e, entry("z", "v", 0, 2)}
	}
	s := made(t)
	was := whole(s)
	for what, l := range lists {
		if e := s.Load(l); e != api.ErrEntry {
			t.Errorf("%s: %d", what, e)
		}
		if got := whole(s); got != was {
			t.Fatalf("%s: %s", what, got)
		}
	}
	// A mark that stands is told ahead of what is wrong with the entries.
	s.Mark()
	for what, l := range lists {
		if e := s.Load(l); e != api.ErrMark {
			t.Errorf("%s, with a mark: %d", what, e)
		}
	}
}

// P14.6: Load is refused while a mark stands, and changes nothing; behind its end it is not.
func TestLoadMarked(t *testing.T) {
	for _, end := range []func(s *Space) api.Errno{(*Space).Back, (*Space).Keep} {
		s := made(t)
		s.Mark()
		s.Drop("a")
		was := whole(s) + changed(s)
		for _, l := range [][]api.Entry{nil, {entry("k", "v", 0, 1)}, {entry("a", "x", 0, 1), entry("b", "y", 0, 2)}} {
			if e := s.Load(l); e != api.ErrMark {
				t.Errorf("Load: %d", e)
			}
			is(t, "behind Load with a mark", whole(s)+changed(s), was)
		}
		if end(s) != api.OK || s.Load([]api.Entry{entry("k", "v", 2, 8)}) != api.OK {
			t.Error("Load behind the mark's end")
		}
		holds(t, "behind the mark's end", s, "k=v@2#8 /8")
	}
}

// P14.7: the bytes of no key, of one and of several, whatever their versions.
func TestBytes(t *testing.T) {
	s := New()
	is(t, "no key", s.Bytes(), "")
	put(t, s, "k", "v", 0)
	const k = "\x01\x00\x00\x00\x00\x00\x00\x00k\x00\x00\x00\x00\x00\x00\x00\x00\x01\x01\x00\x00\x00v"
	is(t, "one", s.Bytes(), k)
	s.Put("", aSet("a", "b"), 258)
	const empty = "\x00\x00\x00\x00\x00\x00\x00\x00\x02\x01\x00\x00\x00\x00\x00\x00\x04\x02\x00\x00\x00\x01\x00\x00\x00a\x01\x00\x00\x00b"
	is(t, "two", s.Bytes(), empty+k)
	put(t, s, "kk", "", top)
	const kk = "\x02\x00\x00\x00\x00\x00\x00\x00kk\x00\x00\x00\x00\x00\x00\x20\x00\x01\x00\x00\x00\x00"
	is(t, "three", s.Bytes(), empty+k+kk)
	put(t, s, "k", "v", 0)
	is(t, "another version", s.Bytes(), empty+k+kk)
	s.Mark()
	s.SetDue("k", 1)
	is(t, "another deadline", s.Bytes(), empty+strings.Replace(k, "k\x00", "k\x01", 1)+kk)
	s.Back()
	is(t, "behind Back", s.Bytes(), empty+k+kk)
	s.Drop("")
	is(t, "behind Drop", s.Bytes(), k+kk)
	s.Clear()
	is(t, "behind Clear", s.Bytes(), "")

	long := strings.Repeat("k", 258)
	for _, v := range good() {
		s.Put(long, v, 5)
		s.Put("a", v, 0)
		is(t, show(v), s.Bytes(), modelBytes([]api.Entry{{Key: "a", Value: v}, {Key: long, Value: v, Due: 5}}))
	}
}
