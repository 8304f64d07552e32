package request

import (
	"fmt"
	"math"
	"math/rand"
	"regexp"
	"slices"
	"strconv"
	"strings"
	"testing"
	"unsafe"

	"covenant/api"
)

// lines lets | stand for 13 10, as the chapter does.
func lines(s string) string {
	return strings.ReplaceAll(s, "|", "\r\n")
}

// few are the limits of the chapter's examples.
func few() api.Limits {
	return api.Limits{Bulk: 10, Args: 3, Line: 32}
}

// most are the greatest limits that may be.
func most() api.Limits {
	return api.Limits{Bulk: 1048576, Args: 65536, Line: 65536}
}

// shares says whether two texts have a byte of memory together.
func shares(a, b string) bool {
	if a == "" || b == "" {
		return false
	}
	x, y := uintptr(unsafe.Pointer(unsafe.StringData(a))), uintptr(unsafe.Pointer(unsafe.StringData(b)))
	return x < y+uintptr(len(b)) && y < x+uintptr(len(a))
}

// spoilList changes a list, and what lies in its spare room.
func spoilList(list []string) {
	room := list[:cap(list)]
	for i := range room {
		room[i] = "spoilt"
	}
}

var (
	modelBlanks = regexp.MustCompile(`^[\t\n\r ]*`)
	modelWord   = regexp.MustCompile(`(?s)^([^\t\n\r "']*)("(?:[^"\\]|\\.)*"|'(?:[^'\\]|\\+[^\\])*')?`)
	modelEscape = regexp.MustCompile(`(?s)\\x[0-9a-fA-F][0-9a-fA-F]|\\.`)
)

// modelPart is what a quoted part means, its quotes with it.
func modelPart(part string) string {
	if part == "" {
		return ""
	}
	inner := part[1 : len(part)-1]
	if part[0] == '\'' {
		return strings.ReplaceAll(inner, `\'`, `'`)
	}
	return modelEscape.ReplaceAllStringFunc(inner, func(e string) string {
		if len(e) == 4 {
			n, _ := strconv.ParseUint(e[2:], 16, 8)
			return string([]byte{byte(n)})
		}
		if c, ok := map[string]string{`\n`: "\x0a", `\r`: "\x0d", `\t`: "\x09", `\b`: "\x08", `\a`: "\x07"}[e]; ok {
			return c
		}
		return e[1:]
	})
}

// modelSplit is Split by the chapter's words, told by patterns.
func modelSplit(s string) ([]string, bool) {
	words := []string{}
	for {
		s = s[len(modelBlanks.FindString(s)):]
		if s == "" {
			return words, true
		}
		m := modelWord.FindStringSubmatch(s)
		words = append(words, m[1]+modelPart(m[2]))
		s = s[len(m[0]):]
		if s != "" && modelBlanks.FindString(s) == "" {
			return nil, false
		}
	}
}

// checkSplit holds Split against the model.
func checkSplit(t *testing.T, s string) {
	t.Helper()
	want, fine := modelSplit(s)
	if got, ok := Split(s); !slices.Equal(got, want) || ok != fine {
		t.Fatalf("Split(%q): %q %t, want %q %t", s, got, ok, want, fine)
	}
}

// allTexts calls f with each text of the alphabet's bytes that begins with s and has at most so many more.
func allTexts(s, alphabet string, more int, f func(string)) {
	f(s)
	if more == 0 {
		return
	}
	for _, c := range []byte(alphabet) {
		allTexts(s+string([]byte{c}), alphabet, more-1, f)
	}
}

// P4.1: each limit at its edges and past them, the others being fine; New and Whole refuse what Check does.
func TestCheck(t *testing.T) {
	for _, c := range []struct {
		least, most int
		set         func(l *api.Limits, n int)
	}{
		{1, 1048576, func(l *api.Limits, n int) { l.Bulk = n }},
		{1, 65536, func(l *api.Limits, n int) { l.Args = n }},
		{32, 65536, func(l *api.Limits, n int) { l.Line = n }},
	} {
		for _, l := range []api.Limits{few(), most(), {Bulk: 1, Args: 1, Line: 32}} {
			for _, n := range []int{math.MinInt, -c.most, -c.least, -1, 0, 1, c.least - 1, c.least, c.least + 1, 31, 32, 33, c.most - 1, c.most, c.most + 1, 2 * c.most, 1 << 32, 1<<32 + c.least, math.MaxInt} {
				c.set(&l, n)
				want := api.ErrLimits
				if n >= c.least && n <= c.most {
					want = api.OK
				}
				checkLimits(t, l, want)
			}
		}
	}
	checkLimits(t, api.Limits{}, api.ErrLimits)
	checkLimits(t, api.Limits{Bulk: 1048577, Args: 65537, Line: 65537}, api.ErrLimits)
}

func checkLimits(t *testing.T, l api.Limits, want api.Errno) {
	t.Helper()
	if e := Check(l); e != want {
		t.Errorf("Check(%v): %d, want %d", l, e, want)
	}
	r, e := New(l)
	if e != want || (r != nil) != (want == api.OK) {
		t.Errorf("New(%v): %v %d, want %d", l, r, e, want)
	}
	requests, fault, used := Whole(l, "*0\r\na\r\n*x\r\n")
	if want == api.OK && (len(requests) != 1 || fault != "count" || used != 7) {
		t.Errorf("Whole within %v: %q %q %d", l, requests, fault, used)
	}
	if want != api.OK && (len(requests) != 0 || fault != "" || used != 0) {
		t.Errorf("Whole within %v: %q %q %d, want nothing", l, requests, fault, used)
	}
}

// P4.2: no words, empty words, many, and what would be a line's end or a mark.
func TestWrite(t *testing.T) {
	for _, c := range []struct {
		args []string
		want string
	}{
		{nil, "*0|"},
		{[]string{}, "*0|"},
		{[]string{""}, "*1|$0||"},
		{[]string{"", ""}, "*2|$0||$0||"},
		{[]string{"GET", ""}, "*2|$3|GET|$0||"},
		{[]string{"SET", "k", "a b"}, "*3|$3|SET|$1|k|$3|a b|"},
		{[]string{"\r\n", "*1\r\n$", "\x00\xff"}, "*3|$2|||$5|*1|$|$2|\x00\xff|"},
		{[]string{"äö"}, "*1|$4|äö|"},
		{slices.Repeat([]string{"x"}, 10), "*10|" + strings.Repeat("$1|x|", 10)},
		{[]string{strings.Repeat("y", 12)}, "*1|$12|yyyyyyyyyyyy|"},
	} {
		if s := Write(c.args); s != lines(c.want) {
			t.Errorf("Write(%q): %q, want %q", c.args, s, lines(c.want))
		}
	}
}

// P4.2: words and texts above what limits may let are written as well.
func TestWriteBeyondLimits(t *testing.T) {
	long := strings.Repeat("z", 1<<20+1)
	if s := Write([]string{long, "a"}); s != fmt.Sprintf("*2\r\n$1048577\r\n%s\r\n$1\r\na\r\n", long) {
		t.Errorf("Write of a long word: %d bytes", len(s))
	}
	many := slices.Repeat([]string{""}, 1<<16+1)
	if s := Write(many); s != "*65537\r\n"+strings.Repeat("$0\r\n\r\n", 65537) {
		t.Errorf("Write of many words: %d bytes", len(s))
	}
}

// P4.2: every byte in a word.
func TestWriteEveryByte(t *testing.T) {
	for c := range 256 {
		word := "a" + string([]byte{byte(c)}) + "b"
		if s := Write([]string{word, word}); s != "*2\r\n$3\r\n"+word+"\r\n$3\r\n"+word+"\r\n" {
			t.Errorf("Write of the byte %d: %q", c, s)
		}
	}
}

// P4.3: texts that are split.
func TestSplit(t *testing.T) {
	for _, c := range []struct {
		line string
		want []string
	}{
		{"", nil}, {" ", nil}, {"\t", nil}, {"\n", nil}, {"\r", nil}, {" \t\r\n \r\n\t", nil},
		{"a", []string{"a"}}, {"a b", []string{"a", "b"}}, {" a\tb\nc\rd ", []string{"a", "b", "c", "d"}}, {"  a  \t\r\n  b  ", []string{"a", "b"}},
		{"SET k 'a b'", []string{"SET", "k", "a b"}}, {`a"b"`, []string{"ab"}}, {`a'b'`, []string{"ab"}}, {`a"b c" d`, []string{"ab c", "d"}}, {`a'' b`, []string{"a", "b"}},
		{`''`, []string{""}}, {`""`, []string{""}}, {`'' ""`, []string{"", ""}}, {` '' `, []string{""}}, {"''\n''", []string{"", ""}}, {"''\t''\r\"\" ''", []string{"", "", "", ""}},
		{`"\x41\n\q"`, []string{"A\nq"}}, {`"\n\r\t\b\a"`, []string{"\x0a\x0d\x09\x08\x07"}}, {`"\N\R\T\B\A\v\f\0\e"`, []string{"NRTBAvf0e"}}, {`"\"\\\'\ "`, []string{`"\' `}},
		{`"\x00\xff\xFF\xaB\xBa\x0a"`, []string{"\x00\xff\xff\xab\xba\x0a"}}, {`"\x"`, []string{"x"}}, {`"\x4"`, []string{"x4"}}, {`"\xg1\x1g"`, []string{"xg1x1g"}}, {`"\X41"`, []string{"X41"}}, {`"\x414"`, []string{"A4"}}, {`"\x4\x41"`, []string{"x4A"}}, {`"\x\x41"`, []string{"xA"}},
		{`"\x+1\x-1\x 1\x_1\x0x"`, []string{"x+1x-1x 1x_1x0x"}}, {`"\\x41"`, []string{`\x41`}}, {`"\\\x41"`, []string{`\A`}}, {`"\x5c\x22"`, []string{`\"`}}, {`"\x5cn"`, []string{`\n`}},
		{`"a'b" 'a"b'`, []string{"a'b", `a"b`}}, {"\"a\tb\nc\rd e\"", []string{"a\tb\nc\rd e"}}, {"'a\tb\nc\rd e'", []string{"a\tb\nc\rd e"}},
		{`'\''`, []string{`'`}}, {`'a\'b'`, []string{`a'b`}}, {`'\n\x41\"\q'`, []string{`\n\x41\"\q`}}, {`'\\''`, []string{`\'`}}, {`'\a'`, []string{`\a`}}, {`'\\a'`, []string{`\\a`}},
		{`\`, []string{`\`}}, {`\\`, []string{`\\`}}, {`\n \x41`, []string{`\n`, `\x41`}}, {`a\ b`, []string{`a\`, "b"}}, {`\""`, []string{`\`}}, {`\"a"`, []string{`\a`}}, {`\'a b'`, []string{`\a b`}},
		{"a\x00b \xff\xfe \x0b\x0c \xc2\xa0", []string{"a\x00b", "\xff\xfe", "\x0b\x0c", "\xc2\xa0"}}, {"*1 $2", []string{"*1", "$2"}}, {"ä 'ö ü'", []string{"ä", "ö ü"}},
	} {
		if got, ok := Split(c.line); !slices.Equal(got, c.want) || !ok {
			t.Errorf("Split(%q): %q %t, want %q", c.line, got, ok, c.want)
		}
	}
}

// P4.3: parts that do not end, and parts with something behind; no word is told then, whatever stood ahead.
func TestSplitRefuses(t *testing.T) {
	for _, s := range []string{
		`"`, `'`, `"a`, `'a`, `a"`, `a'`, `"\`, `"\"`, `"a\"`, `'\'`, `'a\'`, `'\\'`, `"\\\"`, `"'`, `'"`, `"a' `, `'a" `, "\"a\n", "'a\n", "\"a\r\n", `"\x`, `"\x4`, `"\x41`, `"\x4\"`,
		`"a"b`, `'a'b`, `""a`, `''a`, `""""`, `''''`, `""''`, `''""`, `"a""b"`, `'a''b'`, `a"b"c`, `a'b'c`, `"a"\`, `'a'\`, "\"a\"\x00", "'a'\x0b", "\"\"\x0c", "''\xff", "''\xc2\xa0", `"a"\n`,
	} {
		for _, line := range []string{s, "a b " + s, " \t" + s, "'' " + s} {
			if got, ok := Split(line); len(got) != 0 || ok {
				t.Errorf("Split(%q): %q %t, want false", line, got, ok)
			}
		}
	}
	for _, s := range []string{`"a"b`, `'a'b`, `""""`, `''a`, `a"b"'c'`} {
		for _, behind := range []string{" ", " a", "\n", " 'a'"} {
			if got, ok := Split(s + behind); len(got) != 0 || ok {
				t.Errorf("Split(%q): %q %t, want false", s+behind, got, ok)
			}
		}
	}
}

// P4.3: all short texts, by the model.
func TestSplitShortTexts(t *testing.T) {
	check := func(s string) { checkSplit(t, s) }
	allTexts("", "\"'\\ ax", 7, check)
	allTexts("", "\"'\\\t\n\r x4g\x00\xff", 4, check)
	allTexts(`"\`, "x4gF\\\"' ", 5, check)
	allTexts(`'\`, "\\\"' n", 6, check)
}

// P4.3: every byte, outside of parts and in them, behind a backslash and behind a part; every pair of bytes as digits.
func TestSplitEveryByte(t *testing.T) {
	for c := range 256 {
		b := string([]byte{byte(c)})
		for _, s := range []string{b, "a" + b + "b", "\\" + b, `"` + b + `"`, `"a` + b + `b"`, `"\` + b + `"`, `"\` + b + `n"`, `'` + b + `'`, `'a` + b + `b'`, `'\` + b + `'`, `'\` + b + `n'`, `"a"` + b, `'a'` + b, `"a"` + b + "c", b + `"a"`, b + `'a'`} {
			checkSplit(t, s)
		}
		for d := range 256 {
			checkSplit(t, `"\x`+b+string([]byte{byte(d)})+`"`)
		}
	}
}

// P4.3: longer texts here and there, by the model.
func TestSplitLongerTexts(t *testing.T) {
	r := rand.New(rand.NewSource(5))
	pieces := []string{" ", "\t", "\r\n", `"`, `'`, `\`, `\"`, `\'`, `\x4`, `\x41`, `\n`, "a", "bc", `"d e"`, `'f g'`, `''`, `""`, "\x00", "\xff"}
	for range 30000 {
		s := ""
		for range r.Intn(14) {
			s += pieces[r.Intn(len(pieces))]
		}
		checkSplit(t, s)
	}
}

// P4.3, R1: long texts of every kind are gone over once.
func TestSplitLongTexts(t *testing.T) {
	const n = 1 << 20
	for _, c := range []struct {
		line  string
		words int
		ok    bool
	}{
		{strings.Repeat("a ", n), n, true}, {strings.Repeat("'' ", n), n, true}, {strings.Repeat("a", n), 1, true}, {strings.Repeat(" ", n), 0, true},
		{`"` + strings.Repeat(`\x4g`, n) + `"`, 1, true}, {`'` + strings.Repeat(`\`, n), 0, false}, {`"` + strings.Repeat(`\`, n), 0, false}, {strings.Repeat("a ", n) + "'", 0, false},
	} {
		if words, ok := Split(c.line); len(words) != c.words || ok != c.ok {
			t.Errorf("Split of %.10q ..: %d words, %t", c.line, len(words), ok)
		}
	}
}

// P4.2, P4.3, R4: what is handed in is not changed, behind its end neither, and answers are new memory.
func TestWriteAndSplitShareNothing(t *testing.T) {
	long := strings.Repeat("long enough ", 10)
	room := []string{"a", long, "behind"}
	s := Write(room[:2])
	if !slices.Equal(room, []string{"a", long, "behind"}) {
		t.Errorf("Write changed its list: %q", room)
	}
	if shares(s, long) {
		t.Error("Write shares memory with a word")
	}
	for _, line := range []string{"averyveryverylongword", "'a very very long word' another_long_word", `"a very very long word" x"another long word"`} {
		one, _ := Split(line)
		two, _ := Split(line)
		want := slices.Clone(two)
		for i, word := range one {
			if shares(word, line) || shares(word, two[i]) {
				t.Errorf("Split(%q): the word %q shares memory", line, word)
			}
		}
		spoilList(one)
		if three, _ := Split(line); !slices.Equal(two, want) || !slices.Equal(three, want) {
			t.Errorf("Split(%q): one answer was changed by another", line)
		}
	}
}
