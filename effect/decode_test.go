package effect

import (
	"fmt"
	"math"
	"runtime"
	"strings"
	"testing"

	"covenant/api"
	"covenant/value"
)

// spoilt fails unless Decode refuses some bytes, without any other answer.
func spoilt(t *testing.T, what, s string) {
	t.Helper()
	if l, e := Decode(s); len(l) != 0 || e != api.ErrEffect {
		t.Errorf("%s: Decode(%.80q): %s, %d", what, s, show(l), e)
	}
}

// reads fails unless Decode tells just these effects.
func reads(t *testing.T, what, s string, want ...api.Effect) {
	t.Helper()
	if l, e := Decode(s); !same(l, want) || e != api.OK {
		t.Errorf("%s: Decode(%.80q): %s, %d, not %s", what, s, show(l), e, show(want))
	}
}

// P16.1: each kind's bytes alone.
func TestDecode(t *testing.T) {
	reads(t, "no bytes", "")
	for _, x := range good() {
		reads(t, "alone", modelBytes(x), x)
	}
}

// P16.1: no beginning of an effect's bytes is read, alone or behind others, but that of none.
func TestBeginnings(t *testing.T) {
	for _, x := range short() {
		s := modelBytes(x)
		for i := 1; i < len(s); i++ {
			spoilt(t, "a beginning", s[:i])
			for _, y := range kindsOfEffects() {
				spoilt(t, "a beginning behind another", modelBytes(y)+s[:i])
			}
		}
	}
}

// P16.1: a byte more behind is refused, unless it is one of a clear.
func TestByteMore(t *testing.T) {
	for _, x := range short() {
		s := modelBytes(x)
		for b := range 256 {
			more := s + string([]byte{byte(b)})
			if b == api.EffectClear {
				reads(t, "with a clear behind", more, x, aClear())
			} else {
				spoilt(t, "a byte more", more)
			}
		}
	}
}

// P16.1: bytes of kinds that there are not, whatever stands behind them.
func TestNoKind(t *testing.T) {
	bytes, _ := value.Encode(aText("x"))
	for kind := range 256 {
		if kind >= 1 && kind <= 4 {
			continue
		}
		for _, behind := range []string{"", lay("a"), lay("a") + b8(5), lay("a") + b8(5) + bytes, "\x04", "\x02" + lay("a")} {
			s := string([]byte{byte(kind)}) + behind
			spoilt(t, "alone", s)
			spoilt(t, "behind a clear", "\x04"+s)
		}
	}
}

// behindKeys is, for each kind that has a key, the bytes that stand behind it.
func behindKeys() map[string]string {
	bytes, _ := value.Encode(aText("xyz"))
	return map[string]string{"\x01": b8(5) + bytes, "\x02": "", "\x03": b8(5)}
}

// P16.1: lengths of a key that are below 0 as a number, or go beyond the bytes.
func TestLengths(t *testing.T) {
	for kind, behind := range behindKeys() {
		for _, key := range []string{"", "a", "hello"} {
			rest := key + behind
			beyond := uint64(len(rest)) + 1
			for _, n := range []uint64{beyond, beyond + 1, 255 + beyond, 1 << 16, 1 << 31, 1 << 32, 1<<32 + uint64(len(key)), 1<<53 + uint64(len(key)), 1 << 62, math.MaxInt64, 1 << 63, 1<<63 + uint64(len(key)), math.MaxUint64, math.MaxUint64 - 7, math.MaxUint64 - uint64(len(rest))} {
				spoilt(t, fmt.Sprint("a length of ", n), kind+b8(n)+rest)
				spoilt(t, fmt.Sprint("a length of ", n, " behind a drop"), "\x02"+lay("a")+kind+b8(n)+rest)
			}
		}
		spoilt(t, "a length alone", kind+b8(1))
		spoilt(t, "a length that ends", kind+b8(1)[:7])
	}
	reads(t, "a length that takes all", "\x02"+b8(3)+"\x04\x04\x04", aDrop("\x04\x04\x04"))
	reads(t, "one less", "\x02"+b8(2)+"\x04\x04\x04", aDrop("\x04\x04"), aClear())
	spoilt(t, "one more", "\x02"+b8(4)+"\x04\x04\x04")
}

// P16.1: deadlines that may not be, in a put and in a due; the ones beside them are read.
func TestDeadlines(t *testing.T) {
	bytes, _ := value.Encode(aText("x"))
	for _, n := range []uint64{top + 1, top + 2, 2 * top, 1 << 62, math.MaxInt64, 1 << 63, 1<<63 + 5, math.MaxUint64 - top, math.MaxUint64} {
		spoilt(t, fmt.Sprint("due ", n), "\x03"+lay("a")+b8(n))
		spoilt(t, fmt.Sprint("put ", n), "\x01"+lay("a")+b8(n)+bytes)
		spoilt(t, fmt.Sprint("due ", n, ", with a clear behind"), "\x03"+lay("a")+b8(n)+"\x04")
	}
	for _, n := range []int{0, 1, 255, 1 << 32, top - 1, top} {
		reads(t, "due", "\x03"+lay("a")+b8(uint64(n)), aDue("a", n))
		reads(t, "put", "\x01"+lay("a")+b8(uint64(n))+bytes, aPut("a", aText("x"), n))
	}
}

// P16.1: bytes of a value that are none, or of one that Put does not take.
func TestValues(t *testing.T) {
	b4 := func(n uint32) string { return b8(uint64(n))[:4] }
	item := func(s string) string { return b4(uint32(len(s))) + s }
	for what, s := range map[string]string{
		"none":                      "",
		"Kind 0":                    "\x00",
		"Kind 0 with a text":        "\x00" + item("x"),
		"Kind 6":                    "\x06" + item("x"),
		"Kind 255":                  "\xff" + item("x"),
		"a Kind alone":              "\x01",
		"a text that ends":          "\x01" + b4(3) + "ab",
		"a text too long":           "\x01" + item(strings.Repeat("x", api.MaxText+1)),
		"an empty list":             "\x02" + b4(0),
		"a list that ends":          "\x02" + b4(2) + item("a"),
		"an empty hash":             "\x03" + b4(0),
		"a hash that falls":         "\x03" + b4(2) + item("b") + item("1") + item("a") + item("2"),
		"an empty set":              "\x04" + b4(0),
		"a set that falls":          "\x04" + b4(2) + item("b") + item("a"),
		"a set with one twice":      "\x04" + b4(2) + item("a") + item("a"),
		"an empty rank":             "\x05" + b4(0),
		"a score above":             "\x05" + b4(1) + b8(api.MaxScore+1) + item("a"),
		"a rank that falls":         "\x05" + b4(2) + b8(2) + item("a") + b8(1) + item("b"),
		"a rank with a name twice":  "\x05" + b4(2) + b8(1) + item("a") + b8(2) + item("a"),
		"a count beyond the bytes":  "\x02" + b4(math.MaxUint32) + item("a"),
		"a length beyond the bytes": "\x01" + b4(math.MaxUint32) + "a",
	} {
		put := "\x01" + lay("a") + b8(5) + s
		spoilt(t, what, put)
		spoilt(t, what+", behind a clear", "\x04"+put)
		spoilt(t, what+", twice", put+put)
	}
	for _, v := range goodValues() {
		s, _ := value.Encode(v)
		reads(t, "a value", "\x01"+lay("a")+b8(5)+s+"\x04", aPut("a", v, 5), aClear())
		spoilt(t, "a value without its last byte", "\x01"+lay("a")+b8(5)+s[:len(s)-1])
	}
}

// P16.1: what is good ahead of bytes that are none is not told.
func TestNothingBesideAnError(t *testing.T) {
	s, _ := Encode(short())
	spoilt(t, "an end that is none", s+"\x05")
	spoilt(t, "a beginning that is none", "\x05"+s)
	spoilt(t, "an end that has not ended", s[:len(s)-1])
}

// A length or a count that says more than the bytes hold makes no room for it.
func TestNoRoomForLengths(t *testing.T) {
	var before, after runtime.MemStats
	runtime.ReadMemStats(&before)
	for range 200 {
		for _, n := range []uint64{1 << 20, 1 << 40, 1 << 62, 1 << 63, math.MaxUint64} {
			for kind, behind := range behindKeys() {
				spoilt(t, "a great length", kind+b8(n)+behind)
			}
			spoilt(t, "a great count", "\x01"+lay("a")+b8(5)+"\x02"+b8(n)[:4])
		}
	}
	runtime.ReadMemStats(&after)
	if room := after.TotalAlloc - before.TotalAlloc; room > 4<<20 {
		t.Errorf("%d bytes", room)
	}
}

// Many effects are not gone over again for each of them.
func TestMuch(t *testing.T) {
	const many = 1 << 17
	var l []api.Effect
	for i := range many {
		key := fmt.Sprint(i)
		l = append(l, aPut(key, aList(key, key), i), aDue(key, i+1), aDrop(key))
	}
	s, e := Encode(l)
	if e != api.OK {
		t.Fatalf("Encode: %d", e)
	}
	reads(t, "many effects", s, l...)
	reads(t, "many clears", strings.Repeat("\x04", many), func() []api.Effect {
		var clears []api.Effect
		for range many {
			clears = append(clears, aClear())
		}
		return clears
	}()...)
	spoilt(t, "many effects without the last byte", s[:len(s)-1])
}
