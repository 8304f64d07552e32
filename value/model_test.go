package value

import (
	"bytes"
	"cmp"
	"encoding/binary"
	"io"
	"iter"
	"math/rand"
	"slices"
	"testing"

	"covenant/api"
)

// less is the order byte by byte.
func less(a, b string) bool {
	for i := range min(len(a), len(b)) {
		if a[i] != b[i] {
			return a[i] < b[i]
		}
	}
	return len(a) < len(b)
}

// texts is all texts of a value, in whatever field.
func texts(v api.Value) []string {
	all := append([]string{v.Text}, v.List...)
	for _, f := range v.Fields {
		all = append(all, f.Name, f.Value)
	}
	for _, e := range v.Ranked {
		all = append(all, e.Name)
	}
	return all
}

// modelMay says by the chapter's words whether a value may be, each two elements held against each other.
func modelMay(v api.Value) bool {
	for _, s := range texts(v) {
		if len(s) > api.MaxText {
			return false
		}
	}
	used := [4]bool{v.Text != "", len(v.List) != 0, len(v.Fields) != 0, len(v.Ranked) != 0}
	switch v.Kind {
	case 1:
		return used == [4]bool{used[0]}
	case 2:
		return used == [4]bool{1: true}
	case 3:
		ok := used == [4]bool{2: true}
		for i, a := range v.Fields {
			for _, b := range v.Fields[i+1:] {
				ok = ok && less(a.Name, b.Name)
			}
		}
		return ok
	case 4:
		ok := used == [4]bool{1: true}
		for i, a := range v.List {
			for _, b := range v.List[i+1:] {
				ok = ok && less(a, b)
			}
		}
		return ok
	case 5:
		return used == [4]bool{3: true} && modelRank(v.Ranked)
	}
	return false
}

func modelRank(l []api.Scored) bool {
	for i, a := range l {
		if a.Score > 9007199254740992 || a.Score < -9007199254740992 {
			return false
		}
		for _, b := range l[i+1:] {
			if a.Name == b.Name || a.Score > b.Score || a.Score == b.Score && less(b.Name, a.Name) {
				return false
			}
		}
	}
	return true
}

// modelBytes is the bytes of a value by the chapter's words, written by the library.
func modelBytes(v api.Value) string {
	var out bytes.Buffer
	put := func(x any) { binary.Write(&out, binary.LittleEndian, x) }
	text := func(s string) { put(uint32(len(s))); out.WriteString(s) }
	put(uint8(v.Kind))
	if v.Kind == 1 {
		text(v.Text)
		return out.String()
	}
	put(uint32(len(v.List) + len(v.Fields) + len(v.Ranked)))
	for _, s := range v.List {
		text(s)
	}
	for _, f := range v.Fields {
		text(f.Name)
		text(f.Value)
	}
	for _, e := range v.Ranked {
		put(int64(e.Score))
		text(e.Name)
	}
	return out.String()
}

// modelDecode reads a value by the library, which says by an error that bytes are wanting.
func modelDecode(s string) (api.Value, int, bool) {
	in := bytes.NewReader([]byte(s))
	var err error
	get := func(x any) {
		if err == nil {
			err = binary.Read(in, binary.LittleEndian, x)
		}
	}
	text := func() string {
		var n uint32
		get(&n)
		if err == nil && int(n) > in.Len() {
			err = io.ErrUnexpectedEOF
		}
		if err != nil {
			return ""
		}
		b := make([]byte, n)
		io.ReadFull(in, b)
		return string(b)
	}
	var kind uint8
	get(&kind)
	v := api.Value{Kind: int(kind)}
	if kind == 1 {
		v.Text = text()
	} else {
		var n uint32
		for get(&n); n > 0 && err == nil; n-- {
			switch kind {
			case 2, 4:
				v.List = append(v.List, text())
			case 3:
				name := text()
				v.Fields = append(v.Fields, api.Field{Name: name, Value: text()})
			case 5:
				var score int64
				get(&score)
				v.Ranked = append(v.Ranked, api.Scored{Name: text(), Score: int(score)})
			default:
				err = io.ErrUnexpectedEOF
			}
		}
	}
	if err != nil || !modelMay(v) {
		return api.Value{}, 0, false
	}
	return v, len(s) - in.Len(), true
}

// sameAsModel fails unless Decode tells what the model tells, and Encode of it are the very bytes.
func sameAsModel(t *testing.T, s string) {
	t.Helper()
	want, length, ok := modelDecode(s)
	v, n, e := Decode(s)
	if !ok {
		if e != api.ErrBytes || n != 0 || !Same(v, api.Value{}) {
			t.Fatalf("Decode(%q): %v, %d, %d", s, v, n, e)
		}
		return
	}
	if e != api.OK || n != length || !Same(v, want) {
		t.Fatalf("Decode(%q): %v, %d, %d, not %v, %d", s, v, n, e, want, length)
	}
	if back, e := Encode(v); e != api.OK || back != s[:n] {
		t.Fatalf("Encode(%v): %q %d, not %q", v, back, e, s[:n])
	}
}

// every is all lists of at most so many of these elements.
func every[T any](elements []T, most int) [][]T {
	all := [][]T{nil}
	from := 0
	for range most {
		end := len(all)
		for _, l := range all[from:end] {
			for _, e := range elements {
				all = append(all, append(slices.Clone(l), e))
			}
		}
		from = end
	}
	return all
}

// smallValues goes over all small values of the five kinds, those too that may not be.
func smallValues() iter.Seq[api.Value] {
	some := []string{"", "a", "a\x00", "b"}
	var fields []api.Field
	var entries []api.Scored
	for _, name := range some[1:] {
		fields = append(fields, api.Field{Name: name}, api.Field{Name: name, Value: "a"})
	}
	for _, name := range some[:3] {
		entries = append(entries, api.Scored{Name: name, Score: -1}, api.Scored{Name: name, Score: 0}, api.Scored{Name: name, Score: 256})
	}
	return func(yield func(api.Value) bool) {
		var all []api.Value
		for _, l := range every([]byte("a\x00\x01\xff"), 4) {
			all = append(all, aText(string(l)))
		}
		for _, l := range every(some, 4) {
			all = append(all, aList(l...), aSet(l...))
		}
		for _, l := range every(fields, 4) {
			all = append(all, aHash(l...))
		}
		for _, l := range every(entries, 4) {
			all = append(all, aRank(l...))
		}
		for _, v := range all {
			if !yield(v) {
				return
			}
		}
	}
}

// asked fails unless all that is asked of a value is what the model tells.
func asked(t *testing.T, v api.Value) {
	t.Helper()
	want, bytes := api.OK, ""
	switch {
	case v.Kind < 1 || v.Kind > 5:
		want = api.ErrKind
	case !modelMay(v):
		want = api.ErrValue
	default:
		bytes = modelBytes(v)
	}
	s, e := Encode(v)
	if Check(v) != want || e != want || s != bytes || Weight(v) != len(bytes) {
		t.Fatalf("%v: Check %d, Encode %q %d, Weight %d, not %d and %q", v, Check(v), s, e, Weight(v), want, bytes)
	}
	if !Same(v, v) || !Same(Copy(v), v) {
		t.Fatalf("%v: not the Same", v)
	}
	if want != api.OK {
		return
	}
	for _, behind := range []string{"", "\x00", "a", s} {
		if got, n, e := Decode(s + behind); e != api.OK || n != len(s) || !Same(got, v) {
			t.Fatalf("Decode(%q): %v, %d, %d", s+behind, got, n, e)
		}
	}
}

// 13.1 to 13.5: every small value of each kind.
func TestSmallValues(t *testing.T) {
	for v := range smallValues() {
		asked(t, v)
	}
}

// 13.1 to 13.3: every Kind with every field filled or not.
func TestEveryField(t *testing.T) {
	for kind := -2; kind <= 8; kind++ {
		for _, text := range []string{"", "a"} {
			for _, list := range every([]string{"a", "b"}, 2) {
				for _, fields := range every([]api.Field{{Name: "a"}, {Name: "b"}}, 2) {
					for _, entries := range every([]api.Scored{{Name: "a"}, {Name: "b", Score: -1}}, 2) {
						asked(t, api.Value{Kind: kind, Text: text, List: list, Fields: fields, Ranked: entries})
					}
				}
			}
		}
	}
}

// 13.4, 13.5: bytes of values in which any byte is another one, is gone, or has one more ahead.
func TestSpoiltBytes(t *testing.T) {
	for _, v := range good() {
		s := modelBytes(v)
		if len(s) > 100 {
			continue
		}
		for i := range len(s) {
			for b := range 256 {
				sameAsModel(t, s[:i]+string([]byte{byte(b)})+s[i+1:])
				sameAsModel(t, s[:i]+string([]byte{byte(b)})+s[i:])
			}
			sameAsModel(t, s[:i]+s[i+1:])
			sameAsModel(t, s[i:])
		}
	}
}

// 13.4, 13.5: every short text of few bytes, behind each Kind.
func TestShortTexts(t *testing.T) {
	for kind := range 7 {
		for _, l := range every([]byte{0, 1, 2}, 8) {
			sameAsModel(t, string([]byte{byte(kind)})+string(l))
		}
	}
}

// anyText is a text of up to three bytes, of few kinds or of all.
func anyText(r *rand.Rand) string {
	b := make([]byte, r.Intn(4))
	for i := range b {
		b[i] = "\x00ab\xff"[r.Intn(4)]
		if r.Intn(8) == 0 {
			b[i] = byte(r.Intn(256))
		}
	}
	return string(b)
}

// anyScore is a score near 0, near one of the ends, or any number.
func anyScore(r *rand.Rand) int {
	switch r.Intn(8) {
	case 0:
		return top - 1 + r.Intn(3)
	case 1:
		return -top - 1 + r.Intn(3)
	case 2:
		return int(r.Uint64())
	}
	return r.Intn(5) - 2
}

// anyValue is a value of some kind, its elements mostly in order.
func anyValue(r *rand.Rand) api.Value {
	v := api.Value{Kind: 1 + r.Intn(5)}
	n := r.Intn(12)
	var names []string
	for range n {
		names = append(names, anyText(r))
	}
	if v.Kind != 2 && r.Intn(5) > 0 {
		slices.Sort(names)
		names = slices.Compact(names)
	}
	switch v.Kind {
	case 1:
		v.Text = anyText(r)
	case 2, 4:
		v.List = names
	case 3:
		for _, name := range names {
			v.Fields = append(v.Fields, api.Field{Name: name, Value: anyText(r)})
		}
	case 5:
		for _, name := range names {
			v.Ranked = append(v.Ranked, api.Scored{Name: name, Score: anyScore(r)})
		}
		if r.Intn(5) > 0 {
			slices.SortStableFunc(v.Ranked, func(a, b api.Scored) int { return cmp.Compare(a.Score, b.Score) })
		}
	}
	return v
}

// 13.1 to 13.5: longer values, and their bytes with some of them spoilt.
func TestAnyValues(t *testing.T) {
	mayBe := 0
	for seed := range int64(20000) {
		r := rand.New(rand.NewSource(seed))
		v := anyValue(r)
		asked(t, v)
		if modelMay(v) {
			mayBe++
		}
		b := []byte(modelBytes(v) + anyText(r))
		sameAsModel(t, string(b))
		for range r.Intn(3) {
			b[r.Intn(len(b))] = byte(r.Intn(256) >> r.Intn(8))
		}
		sameAsModel(t, string(b))
		sameAsModel(t, string(b[:r.Intn(len(b))]))
	}
	if mayBe < 8000 {
		t.Errorf("only %d of the values may be", mayBe)
	}
}
