package blob

import (
	"slices"
	"strings"
	"testing"
	"unsafe"

	"covenant/api"
)

// shares says whether two texts have a byte of memory together.
func shares(a, b string) bool {
	if a == "" || b == "" {
		return false
	}
	x, y := uintptr(unsafe.Pointer(unsafe.StringData(a))), uintptr(unsafe.Pointer(unsafe.StringData(b)))
	return x < y+uintptr(len(b)) && y < x+uintptr(len(a))
}

// R4: a text that is answered shares no memory with one that was handed in, nor with another answer, where they say the same too.
func TestNewMemory(t *testing.T) {
	room := []byte("a text that stands in memory that is used again")
	s := unsafe.String(&room[0], len(room))
	over := []byte("laid over it")
	o := unsafe.String(&over[0], len(over))
	was := strings.Clone(s)
	answers := map[string]func() string{
		"Range":        func() string { return Range(s, 2, -3) },
		"Range whole":  func() string { return Range(s, 0, -1) },
		"Splice":       func() string { got, _ := Splice(s, 3, o); return got },
		"Splice whole": func() string { got, _ := Splice("", 0, o); return got },
		"Splice empty": func() string { got, _ := Splice(s, 3, ""); return got },
		"SetBit":       func() string { got, _, _ := SetBit(s, 9, 1); return got },
		"SetBit same":  func() string { got, _, _ := SetBit(s, 0, 0); return got },
		"BitAnd":       func() string { got, _ := Op(api.BitAnd, []string{s}); return got },
		"BitOr":        func() string { got, _ := Op(api.BitOr, []string{s, o}); return got },
		"BitXor":       func() string { got, _ := Op(api.BitXor, []string{s}); return got },
		"BitNot":       func() string { got, _ := Op(api.BitNot, []string{s}); return got },
	}
	for what, ask := range answers {
		got, again := ask(), ask()
		if got == "" || shares(got, s) || shares(got, o) || shares(got, again) {
			t.Errorf("%s: %q shares memory", what, got)
		}
		kept := strings.Clone(got)
		clear(room)
		clear(over)
		if got != kept {
			t.Errorf("%s: %q has changed with what was handed in", what, got)
		}
		copy(room, was)
		copy(over, "laid over it")
	}
}

// R4: what is handed in stays as it was, what lies behind a list's end too.
func TestHandedInStays(t *testing.T) {
	const whole = "what is handed in stays \x00\xff"
	room := []byte(whole)
	s := unsafe.String(&room[0], len(room))
	list := []string{s, s[:9], "", s[3:], "behind the end", s}
	stood := slices.Clone(list)
	calls := map[string]func(){
		"Range":  func() { Range(s, -7, 99) },
		"Splice": func() { Splice(s, 3, s[1:]); Splice(s, 0, s); Splice(s, 99, s); Splice(s, -1, s); Splice(s, 9, "") },
		"Bit":    func() { Bit(s, 9); Bit(s, -1) },
		"SetBit": func() { SetBit(s, 9, 0); SetBit(s, 9, 1); SetBit(s, 999, 1); SetBit(s, 9, 2) },
		"Count":  func() { Count(s, 0, -1) },
		"First":  func() { First(s, 0, 0, -1); First(s, 1, 0, -1) },
		"Op": func() {
			for op := 0; op <= 5; op++ {
				Op(op, list[:4:6])
				Op(op, list[:1])
				Op(op, list[:0])
			}
		},
		"Incr": func() { Incr(s, 1) },
	}
	for what, call := range calls {
		call()
		if string(room) != whole || !slices.Equal(list, stood) {
			t.Errorf("%s: %q, %q", what, room, list)
		}
	}
}

// Long texts, and many of them, take their time once: a text costs no more than its bytes.
func TestMuch(t *testing.T) {
	long := strings.Repeat("\x0f", api.MaxText)
	l := slices.Repeat([]string{""}, 1<<18)
	l[1<<17] = long
	for op, want := range map[int]int{api.BitAnd: 0, api.BitOr: 4 * api.MaxText, api.BitXor: 4 * api.MaxText} {
		got, e := Op(op, l)
		if len(got) != api.MaxText || Count(got, 0, -1) != want || e != api.OK {
			t.Errorf("Op(%d): %d bytes, %d", op, len(got), e)
		}
	}
	for at := range 1 << 18 {
		bit, e := Bit(long, at)
		if bit != at>>2&1 || e != api.OK || Range(long, at, at+1) != "\x0f\x0f" || Count(long, at, at) != 4 {
			t.Fatalf("Bit(%d): %d %d", at, bit, e)
		}
	}
	s := ""
	for i := range 100 {
		s, _ = Splice(s, 10000*i, "\x80")
		if at, e := First(s, 1, -1, -1); at != 80000*i || e != api.OK || Count(s, 0, -1) != i+1 {
			t.Fatalf("behind %d: %d %d", i, at, e)
		}
	}
}
