package blob

import (
	"math"
	"strconv"
	"strings"
	"testing"

	"covenant/api"
)

const (
	maxText = 1048576
	lastBit = 8*maxText - 1
)

// zeros is n bytes 0.
func zeros(n int) string {
	return strings.Repeat("\x00", n)
}

// short tells a long text by its ends.
func short(s string) string {
	if len(s) <= 40 {
		return strconv.Quote(s)
	}
	return strconv.Quote(s[:16]) + ".." + strconv.Quote(s[len(s)-16:]) + " of " + strconv.Itoa(len(s))
}

// The numbers that the chapter names.
func TestNumbers(t *testing.T) {
	if api.MaxText != maxText || bitPlaces != lastBit+1 {
		t.Errorf("MaxText %d, places of bits %d", api.MaxText, bitPlaces)
	}
	for what, x := range map[string][2]int{
		"ErrArg": {int(api.ErrArg), 1}, "ErrNumber": {int(api.ErrNumber), 10}, "ErrOver": {int(api.ErrOver), 11},
		"ErrBit": {int(api.ErrBit), 80}, "ErrLong": {int(api.ErrLong), 81}, "ErrNothing": {int(api.ErrNothing), 82},
		"BitAnd": {api.BitAnd, 1}, "BitOr": {api.BitOr, 2}, "BitXor": {api.BitXor, 3}, "BitNot": {api.BitNot, 4},
	} {
		if x[0] != x[1] {
			t.Errorf("%s: %d, not %d", what, x[0], x[1])
		}
	}
}

// P8.1: places from the front and from the end, before the first and behind the last byte, turned round.
func TestRange(t *testing.T) {
	for _, x := range []struct {
		s        string
		from, to int
		want     string
	}{
		{"hello", 1, 3, "ell"}, {"hello", -3, -1, "llo"}, {"hello", -99, 0, "h"}, {"hello", 3, 1, ""}, {"hello", 0, -99, ""}, {"hello", 2, 99, "llo"},
		{"hello", 0, 4, "hello"}, {"hello", 0, -1, "hello"}, {"hello", -5, -1, "hello"}, {"hello", -5, 4, "hello"}, {"hello", 0, 5, "hello"}, {"hello", -6, 5, "hello"},
		{"hello", 0, 0, "h"}, {"hello", 4, 4, "o"}, {"hello", 2, 2, "l"}, {"hello", -1, -1, "o"}, {"hello", -5, -5, "h"}, {"hello", -5, 0, "h"}, {"hello", 0, -5, "h"}, {"hello", 4, -1, "o"}, {"hello", -1, 4, "o"},
		{"hello", 5, 5, ""}, {"hello", 5, 99, ""}, {"hello", 6, 7, ""}, {"hello", 5, -1, ""}, {"hello", 99, 98, ""}, {"hello", 4, 99, "o"}, {"hello", -1, 99, "o"},
		{"hello", -99, -6, ""}, {"hello", -6, -6, ""}, {"hello", 0, -6, ""}, {"hello", -99, -5, "h"}, {"hello", -6, -5, "h"}, {"hello", -99, -98, ""}, {"hello", -99, -99, ""},
		{"hello", 1, 0, ""}, {"hello", 4, 3, ""}, {"hello", -1, -2, ""}, {"hello", -1, 0, ""}, {"hello", -1, 3, ""}, {"hello", 1, -5, ""}, {"hello", 2, -4, ""},
		{"hello", 1, -2, "ell"}, {"hello", -4, 3, "ell"}, {"hello", -4, -2, "ell"},
		{"", 0, 0, ""}, {"", 0, -1, ""}, {"", -1, -1, ""}, {"", -1, 0, ""}, {"", 1, 2, ""}, {"", -9, 9, ""}, {"", math.MinInt, math.MaxInt, ""}, {"", math.MaxInt, math.MinInt, ""},
		{"a", 0, 0, "a"}, {"a", -1, -1, "a"}, {"a", 1, 1, ""}, {"a", -2, -2, ""}, {"a", -2, 0, "a"},
		{"a\x00\xffb", 1, 2, "\x00\xff"}, {"\xc3\xa4", 1, 1, "\xa4"},
		{"hello", math.MinInt, math.MaxInt, "hello"}, {"hello", math.MaxInt, math.MinInt, ""}, {"hello", math.MinInt, math.MinInt, ""}, {"hello", math.MaxInt, math.MaxInt, ""},
		{"hello", 0, math.MaxInt, "hello"}, {"hello", 4, math.MaxInt, "o"}, {"hello", 5, math.MaxInt, ""}, {"hello", -1, math.MaxInt, "o"}, {"hello", math.MaxInt, -1, ""}, {"hello", math.MaxInt - 1, math.MaxInt, ""},
		{"hello", math.MinInt, -1, "hello"}, {"hello", math.MinInt, 0, "h"}, {"hello", math.MinInt, -5, "h"}, {"hello", math.MinInt, -6, ""}, {"hello", 0, math.MinInt, ""}, {"hello", 0, math.MinInt + 1, ""}, {"hello", -1, math.MinInt, ""},
	} {
		if got := Range(x.s, x.from, x.to); got != x.want {
			t.Errorf("Range(%q, %d, %d): %q, not %q", x.s, x.from, x.to, got, x.want)
		}
	}
}

// P8.2: t is laid over s inside, at its end and behind it; what stands ahead and behind stays.
func TestSplice(t *testing.T) {
	long := strings.Repeat("s", maxText+5)
	for _, x := range []struct {
		s    string
		at   int
		t    string
		want string
	}{
		{"hello", 1, "EY", "hEYlo"}, {"ab", 4, "x", "ab\x00\x00x"}, {"a", maxText, "", "a"},
		{"hello", 0, "H", "Hello"}, {"hello", 4, "O", "hellO"}, {"hello", 3, "LOW", "helLOW"}, {"hello", 0, "HELLO", "HELLO"}, {"hello", 0, "HELLOW", "HELLOW"},
		{"hello", 5, "x", "hellox"}, {"hello", 5, "xy", "helloxy"}, {"hello", 6, "x", "hello\x00x"}, {"hello", 8, "xy", "hello\x00\x00\x00xy"}, {"hello", 2, "\x00", "he\x00lo"},
		{"", 0, "x", "x"}, {"", 1, "x", "\x00x"}, {"", 3, "xy", "\x00\x00\x00xy"}, {"", 0, "", ""}, {"", 5, "", ""},
		{"hello", 0, "", "hello"}, {"hello", 3, "", "hello"}, {"hello", 99, "", "hello"}, {"hello", maxText + 1, "", "hello"}, {"hello", math.MaxInt, "", "hello"}, {"", math.MaxInt, "", ""},
		{"ab", maxText - 1, "x", "ab" + zeros(maxText-3) + "x"}, {"", maxText - 1, "x", zeros(maxText-1) + "x"}, {"", maxText - 2, "xy", zeros(maxText-2) + "xy"},
		{"ab", 0, long[:maxText], long[:maxText]}, {"ab", 1, long[:maxText-1], "a" + long[:maxText-1]}, {"", 0, long[:maxText], long[:maxText]},
		// A text that is longer already stays so: only how far t reaches is asked.
		{long, 1, "x", "sx" + long[2:]}, {long, maxText - 1, "x", long[:maxText-1] + "x" + long[maxText:]}, {long, 9, "", long}, {long, 0, strings.Repeat("t", maxText), strings.Repeat("t", maxText) + "sssss"},
	} {
		if got, e := Splice(x.s, x.at, x.t); got != x.want || e != api.OK {
			t.Errorf("Splice(%s, %d, %s): %s %d, not %s", short(x.s), x.at, short(x.t), short(got), e, short(x.want))
		}
	}
}

// P8.2: a place below 0, whatever t is, and one from which t would reach too far.
func TestSpliceRefuses(t *testing.T) {
	long := strings.Repeat("s", maxText+5)
	for _, x := range []struct {
		s    string
		at   int
		t    string
		want api.Errno
	}{
		{"a", -1, "x", api.ErrArg}, {"a", -1, "", api.ErrArg}, {"", -1, "", api.ErrArg}, {"hello", -5, "x", api.ErrArg}, {"a", math.MinInt, "x", api.ErrArg}, {"a", math.MinInt, "", api.ErrArg},
		{"a", -1, long, api.ErrArg}, {"a", -1, long[:maxText], api.ErrArg}, {"a", math.MinInt, long, api.ErrArg},
		{"a", maxText, "x", api.ErrLong}, {"a", maxText - 1, "xy", api.ErrLong}, {"", maxText, "x", api.ErrLong}, {"a", maxText + 1, "x", api.ErrLong},
		{"a", 1, long[:maxText], api.ErrLong}, {"a", 0, long[:maxText+1], api.ErrLong}, {"a", 0, long, api.ErrLong}, {"", 2, long[:maxText-1], api.ErrLong},
		{long, maxText, "x", api.ErrLong}, {long, 0, long, api.ErrLong}, {long, maxText + 1, "x", api.ErrLong},
		{"a", math.MaxInt, "x", api.ErrLong}, {"a", math.MaxInt - 1, "x", api.ErrLong}, {"a", math.MaxInt, long, api.ErrLong}, {"a", math.MaxInt - maxText, "x", api.ErrLong},
	} {
		if got, e := Splice(x.s, x.at, x.t); got != "" || e != x.want {
			t.Errorf("Splice(%s, %d, %s): %s %d, not %d", short(x.s), x.at, short(x.t), short(got), e, x.want)
		}
	}
}

// P8.3: the highest bit of the first byte first; 0 behind the text's end.
func TestBit(t *testing.T) {
	for i, want := range "01100001" + "10000000" + "00000001" + "11111111" + "00000000" + "0000" {
		if got, e := Bit("a\x80\x01\xff", i); got != int(want-'0') || e != api.OK {
			t.Errorf("Bit %d: %d %d", i, got, e)
		}
	}
	long := zeros(maxText-1) + "\x01\xff"
	for _, x := range []struct {
		s        string
		at, want int
	}{
		{"a", 1, 1}, {"a", 99, 0}, {"", 0, 0}, {"", 7, 0}, {"\xff", 0, 1}, {"\xff", 7, 1}, {"\xff", 8, 0}, {"\xff\xff", 8, 1}, {"\xff", lastBit, 0}, {"", lastBit, 0},
		{long, lastBit, 1}, {long, lastBit - 1, 0}, {long, 0, 0}, {long[:maxText], lastBit, 1}, {long[:maxText-1], lastBit, 0},
	} {
		if got, e := Bit(x.s, x.at); got != x.want || e != api.OK {
			t.Errorf("Bit(%s, %d): %d %d, not %d", short(x.s), x.at, got, e, x.want)
		}
	}
}

// noPlaces are numbers that are no places of bits.
func noPlaces() []int {
	return []int{-1, -2, -7, -8, -9, lastBit + 1, lastBit + 2, lastBit + 8, 2 * lastBit, 1 << 32, math.MaxInt, math.MaxInt - 1, math.MinInt, math.MinInt + 1}
}

// P8.3: what is no place of a bit is refused, however long the text is.
func TestBitRefuses(t *testing.T) {
	for _, s := range []string{"", "a", "\xff", strings.Repeat("\xff", maxText+1)} {
		for _, at := range noPlaces() {
			if got, e := Bit(s, at); got != 0 || e != api.ErrBit {
				t.Errorf("Bit(%s, %d): %d %d", short(s), at, got, e)
			}
		}
	}
}

// P8.3: the bit is set or cleared, the text made longer as far as the place needs, and what stood there told.
func TestSetBit(t *testing.T) {
	long := strings.Repeat("\xff", maxText+1)
	for _, x := range []struct {
		s       string
		at, bit int
		want    string
		stood   int
	}{
		{"", 7, 1, "\x01", 0}, {"a", 8, 0, "a\x00", 0},
		{"a", 0, 1, "\xe1", 0}, {"a", 7, 0, "`", 1}, {"a", 7, 1, "a", 1}, {"a", 0, 0, "a", 0}, {"a", 1, 0, "!", 1}, {"a", 3, 1, "q", 0},
		{"\x00", 0, 1, "\x80", 0}, {"\xff", 0, 0, "\x7f", 1}, {"\xff", 7, 0, "\xfe", 1}, {"\xff", 0, 1, "\xff", 1}, {"\x00", 7, 0, "\x00", 0},
		{"ab", 8, 1, "a\xe2", 0}, {"ab", 15, 1, "ac", 0}, {"abc", 14, 0, "a`c", 1},
		{"", 0, 0, "\x00", 0}, {"", 0, 1, "\x80", 0}, {"", 8, 1, "\x00\x80", 0}, {"", 15, 0, "\x00\x00", 0}, {"", 16, 1, "\x00\x00\x80", 0},
		{"a", 8, 1, "a\x80", 0}, {"a", 15, 1, "a\x01", 0}, {"a", 23, 1, "a\x00\x01", 0}, {"a", 31, 0, "a\x00\x00\x00", 0},
		{"a", lastBit, 1, "a" + zeros(maxText-2) + "\x01", 0}, {"", lastBit, 0, zeros(maxText), 0}, {"", lastBit - 7, 1, zeros(maxText-1) + "\x80", 0}, {"", lastBit - 8, 1, zeros(maxText-2) + "\x01", 0},
		{long, lastBit, 0, long[:maxText-1] + "\xfe\xff", 1}, {long, 0, 0, "\x7f" + long[1:], 1}, {long, 8, 1, long, 1},
	} {
		if got, stood, e := SetBit(x.s, x.at, x.bit); got != x.want || stood != x.stood || e != api.OK {
			t.Errorf("SetBit(%s, %d, %d): %s %d %d, not %s %d", short(x.s), x.at, x.bit, short(got), stood, e, short(x.want), x.stood)
		}
	}
}

// noBits are numbers that are no bits.
func noBits() []int {
	return []int{-1, 2, 3, 7, -2, 48, 49, 255, 256, 257, 1 << 32, 1<<32 + 1, math.MaxInt, math.MinInt, math.MinInt + 1}
}

// P8.3: what is no place, or no bit, is refused.
func TestSetBitRefuses(t *testing.T) {
	refused := func(s string, at, bit int) {
		if got, stood, e := SetBit(s, at, bit); got != "" || stood != 0 || e != api.ErrBit {
			t.Errorf("SetBit(%s, %d, %d): %s %d %d", short(s), at, bit, short(got), stood, e)
		}
	}
	for _, s := range []string{"", "a", "\xff\xff", strings.Repeat("\xff", maxText+1)} {
		for _, at := range noPlaces() {
			refused(s, at, 0)
			refused(s, at, 1)
			refused(s, at, 2)
		}
		for _, bit := range noBits() {
			refused(s, 0, bit)
			refused(s, 7, bit)
			refused(s, lastBit, bit)
		}
	}
}

// P8.4: the bits that are 1, over the whole and over parts from either end.
func TestCount(t *testing.T) {
	for _, x := range []struct {
		s              string
		from, to, want int
	}{
		{"ab", 0, -1, 6}, {"ab", 0, 0, 3}, {"ab", 1, 1, 3}, {"ab", -1, -1, 3}, {"ab", 1, 0, 0}, {"ab", 2, 9, 0}, {"ab", -9, 9, 6}, {"ab", 0, -3, 0},
		{"", 0, -1, 0}, {"", -9, 9, 0}, {"\x00", 0, -1, 0}, {"\xff", 0, -1, 8}, {"\x80", 0, 0, 1}, {"\x01", 0, 0, 1},
		{"\xff\x0f\x03\x01", 0, -1, 15}, {"\xff\x0f\x03\x01", 1, 2, 6}, {"\xff\x0f\x03\x01", -3, -2, 6}, {"\xff\x0f\x03\x01", 1, -2, 6}, {"\xff\x0f\x03\x01", -4, 0, 8}, {"\xff\x0f\x03\x01", 3, 3, 1}, {"\xff\x0f\x03\x01", 2, 99, 3}, {"\xff\x0f\x03\x01", -99, 1, 12},
		{"\xff\x0f\x03\x01", math.MinInt, math.MaxInt, 15}, {"\xff\x0f\x03\x01", math.MaxInt, math.MinInt, 0}, {"\xff\x0f\x03\x01", 3, math.MaxInt, 1}, {"\xff\x0f\x03\x01", math.MinInt, 0, 8},
		{strings.Repeat("\xff", maxText+1), 0, -1, 8*maxText + 8}, {strings.Repeat("\xff", maxText+1), maxText, maxText, 8},
	} {
		if got := Count(x.s, x.from, x.to); got != x.want {
			t.Errorf("Count(%s, %d, %d): %d, not %d", short(x.s), x.from, x.to, got, x.want)
		}
	}
}

// P8.4: the least place of a bit, counted in all of the text; -1, if there is none.
func TestFirst(t *testing.T) {
	for _, x := range []struct {
		s                   string
		bit, from, to, want int
	}{
		{"a", 1, 0, -1, 1}, {"\xff", 0, 0, -1, -1}, {"\x00a", 1, 1, 1, 9},
		{"a", 0, 0, -1, 0}, {"\x00", 1, 0, -1, -1}, {"\x00", 0, 0, -1, 0}, {"\xff", 1, 0, -1, 0}, {"\xfe", 0, 0, -1, 7}, {"\x01", 1, 0, -1, 7}, {"\x80", 0, 0, -1, 1}, {"\x7f", 1, 0, -1, 1},
		{"\x00\x00\x01", 1, 0, -1, 23}, {"\xff\xff\xfe", 0, 0, -1, 23}, {"\x00\x00\x80", 1, 0, -1, 16}, {"\xff\xff\x7f", 0, 0, -1, 16},
		{"\x00\x00\x01", 1, 0, 1, -1}, {"\xff\xff\xfe", 0, 0, 1, -1}, {"\x00\x00\x01", 1, 0, -2, -1}, {"\x00\x00\x01", 1, -1, -1, 23}, {"\x00\x00\x01", 1, -1, 99, 23}, {"\x00\x00\x01", 0, -1, -1, 16}, {"\x00\x00\x01", 1, -99, -1, 23},
		{"\xff\x00\xff", 1, 0, -1, 0}, {"\xff\x00\xff", 1, 1, -1, 16}, {"\xff\x00\xff", 1, -2, -1, 16}, {"\xff\x00\xff", 1, 1, 1, -1}, {"\xff\x00\xff", 0, 0, -1, 8}, {"\xff\x00\xff", 0, -1, -1, -1}, {"\xff\x00\xff", 0, 0, 0, -1}, {"\xff\x00\xff", 0, -2, 1, 8},
		// No bit behind the end is looked at, and none where there are no bytes.
		{"", 0, 0, -1, -1}, {"", 1, 0, -1, -1}, {"", 0, 0, 9, -1}, {"\xff", 0, 0, 99, -1}, {"\xff", 0, 1, 99, -1}, {"a", 0, 1, 0, -1}, {"a", 1, 5, 9, -1}, {"a", 0, 0, -2, -1}, {"abc", 1, 2, 1, -1},
		{"a", 1, math.MinInt, math.MaxInt, 1}, {"a", 1, math.MaxInt, math.MinInt, -1}, {"a", 1, 0, math.MaxInt, 1}, {"a", 0, math.MinInt, math.MinInt, -1},
		{zeros(maxText) + "\x01", 1, 0, -1, 8*maxText + 7}, {strings.Repeat("\xff", maxText) + "\xfe", 0, 1, -1, 8*maxText + 7}, {zeros(maxText) + "\x01", 1, 0, -2, -1},
	} {
		if got, e := First(x.s, x.bit, x.from, x.to); got != x.want || e != api.OK {
			t.Errorf("First(%s, %d, %d, %d): %d %d, not %d", short(x.s), x.bit, x.from, x.to, got, e, x.want)
		}
	}
}

// P8.4: what is no bit is refused, with 0 and not -1, where there are no bytes too.
func TestFirstRefuses(t *testing.T) {
	for _, s := range []string{"", "a", "\x00", "\xff\x00"} {
		for _, bit := range noBits() {
			for _, x := range [][2]int{{0, -1}, {1, 1}, {9, 0}, {math.MinInt, math.MaxInt}} {
				if got, e := First(s, bit, x[0], x[1]); got != 0 || e != api.ErrBit {
					t.Errorf("First(%q, %d, %d, %d): %d %d", s, bit, x[0], x[1], got, e)
				}
			}
		}
	}
}

// P8.5: each of the four, of one text and of several of unlike lengths.
func TestOp(t *testing.T) {
	for _, x := range []struct {
		op   int
		l    []string
		want string
	}{
		{api.BitAnd, []string{"ab", "a"}, "a\x00"}, {api.BitNot, []string{"\x0f"}, "\xf0"},
		{api.BitAnd, []string{"\x0f\xff", "\x3c\x0f"}, "\x0c\x0f"}, {api.BitOr, []string{"\x0f\xf0", "\x3c\x0f"}, "\x3f\xff"}, {api.BitXor, []string{"\x0f\xff", "\x3c\x0f"}, "\x33\xf0"},
		{api.BitAnd, []string{"a"}, "a"}, {api.BitOr, []string{"a\x00"}, "a\x00"}, {api.BitXor, []string{"ab"}, "ab"}, {api.BitNot, []string{"\x00\xff\x55"}, "\xff\x00\xaa"},
		{api.BitAnd, []string{""}, ""}, {api.BitOr, []string{""}, ""}, {api.BitXor, []string{""}, ""}, {api.BitNot, []string{""}, ""},
		{api.BitAnd, []string{"", ""}, ""}, {api.BitOr, []string{"", "", ""}, ""}, {api.BitXor, []string{"", ""}, ""},
		{api.BitAnd, []string{"", "abc"}, "\x00\x00\x00"}, {api.BitAnd, []string{"abc", ""}, "\x00\x00\x00"}, {api.BitOr, []string{"", "abc"}, "abc"}, {api.BitOr, []string{"abc", ""}, "abc"}, {api.BitXor, []string{"", "abc"}, "abc"}, {api.BitXor, []string{"abc", ""}, "abc"},
		{api.BitAnd, []string{"\xff", "\xff\xff", "\xff\xff\xff"}, "\xff\x00\x00"}, {api.BitAnd, []string{"\xff\xff\xff", "\xff", "\xff\xff"}, "\xff\x00\x00"}, {api.BitAnd, []string{"\xff\xff", "\xff\xff\xff", "\xff"}, "\xff\x00\x00"}, {api.BitAnd, []string{"\xff\xff\xff", "\xff\xff", "\xff\xff\xff"}, "\xff\xff\x00"},
		{api.BitOr, []string{"\x01", "\x02\x04", "\x08\x10\x20"}, "\x0b\x14\x20"}, {api.BitOr, []string{"\x08\x10\x20", "\x01", "\x02\x04"}, "\x0b\x14\x20"},
		{api.BitXor, []string{"\xff", "\xff\xff", "\xff\xff\xff"}, "\xff\x00\xff"}, {api.BitXor, []string{"\xff\xff\xff", "\xff\xff", "\xff"}, "\xff\x00\xff"}, {api.BitXor, []string{"\xff\xff\xff", "\xff\xff", "\xff", "\x01\x01\x01"}, "\xfe\x01\xfe"},
		{api.BitAnd, []string{"a", "a", "a"}, "a"}, {api.BitOr, []string{"a", "a", "a"}, "a"}, {api.BitXor, []string{"a", "a", "a"}, "a"}, {api.BitXor, []string{"a", "a"}, "\x00"},
		{api.BitNot, []string{strings.Repeat("\xff", maxText+1)}, zeros(maxText + 1)}, {api.BitOr, []string{"a", zeros(maxText + 1)}, "a" + zeros(maxText)},
	} {
		if got, e := Op(x.op, x.l); got != x.want || e != api.OK {
			t.Errorf("Op(%d, %.40q): %s %d, not %s", x.op, x.l, short(got), e, short(x.want))
		}
	}
}

// P8.5: no such operation, no texts, and more than one text to turn.
func TestOpRefuses(t *testing.T) {
	refused := func(op int, l []string) {
		if got, e := Op(op, l); got != "" || e != api.ErrNothing {
			t.Errorf("Op(%d, %q): %q %d", op, l, got, e)
		}
	}
	for _, op := range []int{0, 5, -1, -4, 6, 8, 1 << 32, 1<<32 + 1, math.MaxInt, math.MinInt, math.MinInt + 1} {
		refused(op, []string{"a"})
		refused(op, []string{"a", "b"})
		refused(op, nil)
	}
	for op := api.BitAnd; op <= api.BitNot; op++ {
		refused(op, nil)
		refused(op, []string{})
	}
	refused(api.BitNot, []string{"a", "b"})
	refused(api.BitNot, []string{"a", ""})
	refused(api.BitNot, []string{"", ""})
	refused(api.BitNot, []string{"a", "b", "c"})
}

// P8.6: the sum of a number's text and a number, up to the least and the greatest int.
func TestIncr(t *testing.T) {
	for _, x := range []struct {
		s        string
		by, want int
	}{
		{"5", -7, -2}, {"0", 0, 0}, {"0", 1, 1}, {"0", -1, -1}, {"-1", 1, 0}, {"9", 1, 10}, {"-9", -1, -10}, {"100", -1, 99}, {"-100", 200, 100}, {"41", 1, 42}, {"7", 0, 7},
		{"9223372036854775806", 1, math.MaxInt}, {"9223372036854775807", 0, math.MaxInt}, {"9223372036854775807", -1, math.MaxInt - 1}, {"0", math.MaxInt, math.MaxInt}, {"1", math.MaxInt - 1, math.MaxInt}, {"-1", math.MaxInt, math.MaxInt - 1},
		{"-9223372036854775807", -1, math.MinInt}, {"-9223372036854775808", 0, math.MinInt}, {"-9223372036854775808", 1, math.MinInt + 1}, {"0", math.MinInt, math.MinInt}, {"-1", math.MinInt + 1, math.MinInt}, {"1", math.MinInt, math.MinInt + 1},
		{"9223372036854775807", math.MinInt, -1}, {"-9223372036854775808", math.MaxInt, -1}, {"9223372036854775807", -math.MaxInt, 0}, {"-9223372036854775807", math.MaxInt, 0},
	} {
		if got, sum, e := Incr(x.s, x.by); got != strconv.Itoa(x.want) || sum != x.want || e != api.OK {
			t.Errorf("Incr(%q, %d): %q %d %d, not %d", x.s, x.by, got, sum, e, x.want)
		}
	}
}

// P8.6: a text that is no number's is refused ahead of a sum that is no int.
func TestIncrRefuses(t *testing.T) {
	refused := func(s string, by int, want api.Errno) {
		if got, sum, e := Incr(s, by); got != "" || sum != 0 || e != want {
			t.Errorf("Incr(%.40q, %d): %q %d %d, not %d", s, by, got, sum, e, want)
		}
	}
	for _, s := range []string{
		"", "-", "+", "+1", "-0", "00", "05", "-05", "+0", "--1", "1-", " 1", "1 ", "1\n", "1\x00", "\x001", "a", "1a", "a1", "1_000", "0x10", "0b1", "1e3", "1.0", "1.", ".5", "inf", "\xff", "\uff11",
		"9223372036854775808", "-9223372036854775809", "09223372036854775807", "18446744073709551616", "99999999999999999999", "-99999999999999999999", strings.Repeat("1", maxText+1), strings.Repeat("0", 40) + "1",
	} {
		for _, by := range []int{0, 1, -1, math.MaxInt, math.MinInt} {
			refused(s, by, api.ErrNumber)
		}
	}
	refused("9223372036854775807", 1, api.ErrOver)
	refused("9223372036854775807", math.MaxInt, api.ErrOver)
	refused("1", math.MaxInt, api.ErrOver)
	refused("2", math.MaxInt-1, api.ErrOver)
	refused("9223372036854775806", 2, api.ErrOver)
	refused("-9223372036854775808", -1, api.ErrOver)
	refused("-9223372036854775808", math.MinInt, api.ErrOver)
	refused("-1", math.MinInt, api.ErrOver)
	refused("-2", math.MinInt+1, api.ErrOver)
	refused("-9223372036854775807", -2, api.ErrOver)
}
