package value

import (
	"math"
	"runtime"
	"slices"
	"strconv"
	"strings"
	"testing"

	"covenant/api"
)

// spoilt fails unless Decode refuses a text, without any other answer.
func spoilt(t *testing.T, what, s string) {
	t.Helper()
	v, n, e := Decode(s)
	if e != api.ErrBytes || n != 0 || !Same(v, api.Value{}) {
		t.Errorf("%s: Decode: %v, %d, %d", what, v, n, e)
	}
}

// reads fails unless Decode tells this value and this length.
func reads(t *testing.T, what, s string, want api.Value, length int) {
	t.Helper()
	v, n, e := Decode(s)
	if e != api.OK || n != length || !Same(v, want) {
		t.Errorf("%s: Decode: a value of Kind %d, the same %t, %d bytes, not %d, %d", what, v.Kind, Same(v, want), n, length, e)
	}
}

// b4 is a number in four bytes, b8 in eight, the lowest first.
func b4(n uint32) string {
	return string([]byte{byte(n), byte(n >> 8), byte(n >> 16), byte(n >> 24)})
}

func b8(n uint64) string { return b4(uint32(n)) + b4(uint32(n>>32)) }

// lay is a text with its length ahead.
func lay(s string) string { return b4(uint32(len(s))) + s }

// 13.3: the bytes of each kind.
func TestBytes(t *testing.T) {
	for _, c := range []struct {
		v    api.Value
		want string
	}{
		{aText(""), "\x01" + b4(0)},
		{aText("a\x00"), "\x01" + b4(2) + "a\x00"},
		{aText(long(258)), "\x01\x02\x01\x00\x00" + long(258)},
		{aText(long(api.MaxText)), "\x01\x00\x00\x10\x00" + long(api.MaxText)},
		{aList("b", "", "b"), "\x02" + b4(3) + lay("b") + lay("") + lay("b")},
		{hashOf("a", "xy", "b", ""), "\x03" + b4(2) + lay("a") + lay("xy") + lay("b") + lay("")},
		{aSet("", "\xff"), "\x04" + b4(2) + lay("") + lay("\xff")},
		{aRank(api.Scored{Name: "z", Score: -top}, api.Scored{Name: "a", Score: -1}, api.Scored{Name: "", Score: 258}, api.Scored{Name: "b", Score: top}),
			"\x05" + b4(4) + "\x00\x00\x00\x00\x00\x00\xe0\xff" + lay("z") + "\xff\xff\xff\xff\xff\xff\xff\xff" + lay("a") + "\x02\x01\x00\x00\x00\x00\x00\x00" + lay("") + "\x00\x00\x00\x00\x00\x00\x20\x00" + lay("b")},
	} {
		s, e := Encode(c.v)
		if s != c.want || e != api.OK || Weight(c.v) != len(c.want) {
			t.Errorf("%s: Encode: %.80q %d, Weight %d", Name(c.v.Kind), s, e, Weight(c.v))
		}
		reads(t, Name(c.v.Kind), c.want, c.v, len(c.want))
	}
}

// 13.4, 13.5: the bytes of values of every kind, alone and with bytes behind them, and every proper beginning of them.
func TestThereAndBack(t *testing.T) {
	all := good()
	for _, v := range all {
		s, e := Encode(v)
		if e != api.OK {
			t.Fatalf("Encode(%v): %d", v, e)
		}
		reads(t, "alone", s, v, len(s))
		behind := []string{"x", "\x00", "\xff", s, s[:len(s)-1], b4(0), lay("x"), long(1000)}
		for _, other := range all {
			more, _ := Encode(other)
			behind = append(behind, more)
		}
		for _, more := range behind {
			reads(t, "with bytes behind", s+more, v, len(s))
		}
		for i := range s {
			spoilt(t, "a beginning of "+strconv.Itoa(i)+" bytes of "+strconv.Quote(s), s[:i])
		}
	}
}

// 13.4: no bytes, and Kinds that are none, whatever stands behind them.
func TestNoKindBytes(t *testing.T) {
	spoilt(t, "the empty text", "")
	for kind := range 256 {
		spoilt(t, "a Kind alone", string([]byte{byte(kind)}))
		if kind >= 1 && kind <= 5 {
			continue
		}
		for _, behind := range []string{b4(0), lay("a"), b4(1) + lay("a"), b4(1) + lay("a") + lay("b"), b4(1) + b8(1) + lay("a"), long(40)} {
			spoilt(t, "Kind "+strconv.Itoa(kind), string([]byte{byte(kind)})+behind)
		}
	}
}

// 13.4: counts of 0, and counts that are greater than what follows.
func TestCounts(t *testing.T) {
	elements := map[string]string{
		"\x02": lay("a") + lay("b") + lay("c"),
		"\x03": lay("a") + lay("1") + lay("b") + lay("2") + lay("c") + lay("3"),
		"\x04": lay("a") + lay("b") + lay("c"),
		"\x05": b8(1) + lay("a") + b8(2) + lay("b") + b8(3) + lay("c"),
	}
	for kind, s := range elements {
		spoilt(t, "a count of 0 alone", kind+b4(0))
		spoilt(t, "a count of 0", kind+b4(0)+s)
		spoilt(t, "a count alone", kind+b4(1))
		for n := range uint32(3) {
			length := 5 + len(s)/3*int(n+1)
			v, got, e := Decode(kind + b4(n+1) + s)
			if e != api.OK || got != length || len(v.List)+len(v.Fields)+len(v.Ranked) != int(n+1) {
				t.Errorf("Kind %q, a count of %d: %v, %d, %d", kind, n+1, v, got, e)
			}
		}
		for _, n := range []uint32{4, 5, 6, 8, 12, 255, 256, 1 << 16, api.MaxText, api.MaxText + 1, math.MaxInt32, 1 << 31, math.MaxUint32} {
			spoilt(t, "a count of "+strconv.Itoa(int(n)), kind+b4(n)+s)
			spoilt(t, "a count of "+strconv.Itoa(int(n))+" alone", kind+b4(n))
		}
	}
}

// 13.4: lengths that are greater than what follows, at every place where one stands.
func TestLengths(t *testing.T) {
	for what, v := range inPlaces("hello") {
		s, e := Encode(v)
		if e != api.OK {
			t.Fatalf("%s: %d", what, e)
		}
		at := strings.Index(s, lay("hello"))
		behind := len(s) - at - 4
		for _, n := range []int{behind + 1, behind + 2, 255, 256, 1 << 16, api.MaxText, api.MaxText + 1, math.MaxInt32, 1 << 31, math.MaxUint32} {
			spoilt(t, what+" of "+strconv.Itoa(n), s[:at]+b4(uint32(n))+s[at+4:])
		}
	}
}

// 13.4: a length above MaxText is refused, though all its bytes follow; MaxText is not.
func TestLongBytes(t *testing.T) {
	for what, v := range inPlaces("hello") {
		s, _ := Encode(v)
		at := strings.Index(s, lay("hello"))
		laid := func(n int) string { return s[:at] + lay("hello"+long(n-5)) + s[at+4+5:] + "behind" }
		spoilt(t, what, laid(api.MaxText+1))
		got, n, e := Decode(laid(api.MaxText))
		if e != api.OK || n != len(s)+api.MaxText-5 || Check(got) != api.OK || Weight(got) != n {
			t.Errorf("%s of MaxText: %d bytes, %d", what, n, e)
		}
	}
}

// 13.4: whole elements that may not stand so.
func TestElementsThatMayNot(t *testing.T) {
	for what, s := range map[string]string{
		"a set that falls":              "\x04" + b4(2) + lay("b") + lay("a"),
		"a set with one twice":          "\x04" + b4(2) + lay("a") + lay("a"),
		"a set that falls at the end":   "\x04" + b4(3) + lay("a") + lay("c") + lay("b"),
		"a set with the empty one last": "\x04" + b4(2) + lay("a") + lay(""),
		"a hash that falls":             "\x03" + b4(2) + lay("b") + lay("1") + lay("a") + lay("2"),
		"a hash with a name twice":      "\x03" + b4(2) + lay("a") + lay("1") + lay("a") + lay("2"),
		"a rank that falls":             "\x05" + b4(2) + b8(2) + lay("a") + b8(1) + lay("b"),
		"a rank that falls below 0":     "\x05" + b4(2) + b8(0) + lay("a") + b8(math.MaxUint64) + lay("b"),
		"a rank whose names fall":       "\x05" + b4(2) + b8(1) + lay("b") + b8(1) + lay("a"),
		"a rank with a name twice":      "\x05" + b4(3) + b8(1) + lay("a") + b8(1) + lay("b") + b8(2) + lay("a"),
		"a score above":                 "\x05" + b4(1) + b8(top+1) + lay("a"),
		"a score below":                 "\x05" + b4(1) + b8(math.MaxUint64-top) + lay("a"),
		"the greatest number":           "\x05" + b4(1) + b8(math.MaxInt64) + lay("a"),
		"the least number":              "\x05" + b4(1) + b8(1<<63) + lay("a"),
		"the last score above":          "\x05" + b4(2) + b8(1) + lay("a") + b8(top+1) + lay("b"),
	} {
		spoilt(t, what, s)
		spoilt(t, what+", with bytes behind", s+long(20))
	}
	for score, n := range map[int]uint64{top: top, -top: math.MaxUint64 - top + 1, -1: math.MaxUint64, -256: math.MaxUint64 - 255, 0: 0} {
		s := "\x05" + b4(1) + b8(n) + lay("a")
		reads(t, "a score of "+strconv.Itoa(score), s+"x", aRank(api.Scored{Name: "a", Score: score}), len(s))
	}
}

// 13.5: no value's bytes are a proper beginning of another one's, nor another one's bytes.
func TestNoBeginning(t *testing.T) {
	var all []string
	for v := range smallValues() {
		if s, e := Encode(v); e == api.OK {
			all = append(all, s)
		}
	}
	slices.Sort(all)
	for i := 1; i < len(all); i++ {
		// Sorted, whatever begins with a text stands right behind it.
		if strings.HasPrefix(all[i], all[i-1]) {
			t.Errorf("%q begins with %q", all[i], all[i-1])
		}
	}
}

// A count that says more than the bytes hold makes no room for it.
func TestNoRoomForCounts(t *testing.T) {
	var before, after runtime.MemStats
	runtime.ReadMemStats(&before)
	for range 100 {
		for kind := range 6 {
			for _, n := range []uint32{1 << 20, 1 << 28, math.MaxUint32} {
				spoilt(t, "a great count", string([]byte{byte(kind)})+b4(n)+"\x00\x00\x00\x00\x00\x00\x00\x00\x00\x00\x00\x00\x00\x00")
			}
		}
	}
	runtime.ReadMemStats(&after)
	if room := after.TotalAlloc - before.TotalAlloc; room > 1<<20 {
		t.Errorf("%d bytes", room)
	}
}

// Large values are not gone over again for each of their elements.
func TestMuch(t *testing.T) {
	const many = 1 << 17
	var names []string
	var fields []api.Field
	var entries []api.Scored
	for i := range many {
		name := strconv.Itoa(many + i)
		names = append(names, name)
		fields = append(fields, api.Field{Name: name, Value: name})
		entries = append(entries, api.Scored{Name: strconv.Itoa(3*many - i), Score: i / 3 * 3})
	}
	slices.SortFunc(entries, func(a, b api.Scored) int {
		if a.Score != b.Score {
			return a.Score - b.Score
		}
		return strings.Compare(a.Name, b.Name)
	})
	for _, v := range []api.Value{aList(names...), aSet(names...), aHash(fields...), aRank(entries...)} {
		s, e := Encode(v)
		if e != api.OK || Weight(v) != len(s) {
			t.Fatalf("%s: %d, Weight %d of %d", Name(v.Kind), e, Weight(v), len(s))
		}
		reads(t, Name(v.Kind), s+"behind", v, len(s))
		spoilt(t, Name(v.Kind)+" without its last byte", s[:len(s)-1])
	}
	entries[many-1].Name = entries[0].Name
	refuses(t, "a name twice", aRank(entries...), api.ErrValue)
}
