package request

import (
	"math/rand"
	"regexp"
	"slices"
	"strconv"
	"strings"
	"testing"
	"time"
	"unsafe"

	"covenant/api"
)

// told is what a stream comes to: its requests, how many bytes are used behind each, the fault and the place of the byte at which it is seen (-1: none), and how many bytes are used in the end.
type told struct {
	requests [][]string
	ends     []int
	fault    string
	at       int
	used     int
}

var modelCount = regexp.MustCompile(`^(0|[1-9][0-9]*)$`)

// modelNumber gives a count that is not above most; -1, if there is none.
func modelNumber(text string, most int) int {
	if !modelCount.MatchString(text) {
		return -1
	}
	n, err := strconv.Atoi(text)
	if err != nil || n > most {
		return -1
	}
	return n
}

// modelLine gives a line's text and where the next one begins; or the fault and its byte; or neither, where the line has not ended (then next is 0).
func modelLine(l api.Limits, s string, from int) (text string, next int, fault string, at int) {
	for i := from; i < len(s); i++ {
		if s[i] == 10 {
			return strings.TrimSuffix(s[from:i], "\r"), i + 1, "", -1
		}
		if i-from == l.Line {
			return "", 0, "line", i
		}
	}
	return "", 0, "", -1
}

// modelBulk gives a bulk's text and where what is behind it begins, as modelLine does.
func modelBulk(l api.Limits, s string, from int) (text string, next int, fault string, at int) {
	if from < len(s) && s[from] != '$' {
		return "", 0, "bulk", from
	}
	text, next, fault, at = modelLine(l, s, from)
	if next == 0 {
		return "", 0, fault, at
	}
	length := modelNumber(text[1:], l.Bulk)
	if length < 0 {
		return "", 0, "length", next - 1
	}
	for i, c := range []byte{13, 10} {
		if p := next + length + i; p >= len(s) {
			return "", 0, "", -1
		} else if s[p] != c {
			return "", 0, "end", p
		}
	}
	return s[next : next+length], next + length + 2, "", -1
}

// modelThing gives a thing's words and where the next one begins, as modelLine does.
func modelThing(l api.Limits, s string, from int) (words []string, next int, fault string, at int) {
	text, next, fault, at := modelLine(l, s, from)
	if next == 0 {
		return nil, 0, fault, at
	}
	if s[from] != '*' {
		words, ok := modelSplit(text)
		if !ok {
			return nil, 0, "quotes", next - 1
		}
		for _, word := range words {
			if len(words) > l.Args || len(word) > l.Bulk {
				return nil, 0, "words", next - 1
			}
		}
		return words, next, "", -1
	}
	n := modelNumber(text[1:], l.Args)
	if n < 0 {
		return nil, 0, "count", next - 1
	}
	for range n {
		word, behind, fault, at := modelBulk(l, s, next)
		if behind == 0 {
			return nil, 0, fault, at
		}
		words, next = append(words, word), behind
	}
	return words, next, "", -1
}

// modelWhole is what a stream comes to by the chapter's words, the text being looked at as a whole.
func modelWhole(l api.Limits, s string) told {
	w := told{at: -1}
	for {
		words, next, fault, at := modelThing(l, s, w.used)
		if next == 0 {
			w.fault, w.at = fault, at
			return w
		}
		w.used = next
		if len(words) > 0 {
			w.requests, w.ends = append(w.requests, words), append(w.ends, next)
		}
	}
}

// sameRequests holds requests against each other.
func sameRequests(a, b [][]string) bool {
	return slices.EqualFunc(a, b, func(x, y []string) bool { return slices.Equal(x, y) })
}

// checkWhole holds Whole against the model.
func checkWhole(t *testing.T, l api.Limits, s string) told {
	t.Helper()
	w := modelWhole(l, s)
	if got, fault, used := Whole(l, s); !sameRequests(got, w.requests) || fault != w.fault || used != w.used {
		t.Fatalf("Whole(%.200q): %.200q %q %d, want %.200q %q %d", s, got, fault, used, w.requests, w.fault, w.used)
	}
	return w
}

// faulty are streams whose last byte is the one at which the fault is seen, within the limits of the chapter's examples.
func faulty() []struct{ s, fault string } {
	type list = []struct{ s, fault string }
	l := list{}
	add := func(fault string, streams ...string) {
		for _, s := range streams {
			l = append(l, struct{ s, fault string }{lines(s), fault})
		}
	}
	long := strings.Repeat("a", 31)
	add("line", long+"aa", long+"a\r", long+"\r\r", long+" \x00", strings.Repeat(" ", 33), strings.Repeat("\r", 33), `"`+long+"a", "'"+long+"\r", "*"+strings.Repeat("1", 32), "*"+strings.Repeat("0", 31)+"\r", "*"+long+"a",
		"*1|$"+strings.Repeat("1", 32), "*1|$"+strings.Repeat("0", 31)+"\r", "*1|$"+long+"a", "*2|$1|a|$"+long+"$", "PING|"+long+"bb", "*0||"+long+"*$")
	for _, digits := range []string{"", "x", "-1", "-0", "+1", "+0", "01", "00", "000", "0x1", "1x", "x1", " 1", "1 ", "1\t", "\r", "1.0", "1e0", "1_0", "*", "$", "$1", "\x00", "1\x00", "\xff", "\xd9\xa1", "9223372036854775807", "9223372036854775808", "18446744073709551616", "18446744073709551617", "-9223372036854775808", strings.Repeat("9", 30)} {
		add("count", "*"+digits+"|", "*"+digits+"\n", "a|*"+digits+"|")
		add("length", "*1|$"+digits+"|", "*1|$"+digits+"\n", "*3|$1|a|$"+digits+"|")
	}
	// A line's one 13 ahead of its 10 does not belong to its text; another one does.
	add("count", "*1\r|", "*0\r\r|", "*\r1|")
	add("length", "*1|$1\r|", "*1|$0\r\r|", "*1|$\r1|")
	add("count", "*4|", "*4\n", "*5|", "*10|", "*30|", "*4294967296|", "*4294967297|", "*"+strings.Repeat("0", 31)+"\n", "*"+strings.Repeat("0", 30)+"|", "*"+strings.Repeat("1", 31)+"\n")
	add("length", "*1|$11|", "*1|$11\n", "*1|$12|", "*1|$100|", "*1|$4294967296|", "*1|$4294967297|", "*1|$"+strings.Repeat("0", 31)+"\n", "*1|$"+strings.Repeat("1", 30)+"|")
	add("bulk", "*1|G", "*1|\r", "*1|\n", "*1|*", "*1|:", "*1| ", "*1|\x00", "*1|'", "*1|1", "*2|$1|a|x", "*2|$1|a|\r", "*2|$1|a|\n", "*2|$0||*", "*1\na")
	add("end", "*1|$1|ab", "*1|$1|a\n", "*1|$1|a\rx", "*1|$1|a\r\r", "*1|$1|a\r\x00", "*1|$0|x", "*1|$0|\n", "*1|$0|\rx", "*1|$0|\r\r", "*1|$3|a|b", "*1|$2||x", "*1|$2||\n", "*1|$2||\r\r", "*2|$1|a|$1|b$", "*2|$1|a$", "*1|$10|0123456789a", "*1\n$1\na\n")
	add("quotes", "'a|", "\"a|", "\"a\"b|", "'a'b|", "a'|", `a"|`, `"\"|`, `'\'|`, "''''|", "'|", "\"|", "'\n", "a b c d '|", "a b c 'd'e|", `"\|`, "aaaaaaaaaaaa '|", "\"a\r|", "a 'b\n")
	add("words", "a b c d|", "a b c d\n", "a b c d e f|", "'' '' '' ''|", "'' '' '' \"\"\n", "aaaaaaaaaaa|", "aaaaaaaaaaa\n", "a bbbbbbbbbbb|", "a b ccccccccccc|", "'aaaaaaaaaaa'|", "\"aaaaaaaaaaa\"|", "aaaaaa'aaaaa'|", "aaaaaaaaaa' '|", `"\\\\\\\\\\\\\\\\\\\\\\"|`, "aaaaaaaaaaa b c d|", long+"a\n", long+"|")
	return l
}

// fine are things that end well within the limits of the chapter's examples, and their words (none: it says nothing).
func fine() []struct {
	s     string
	words []string
} {
	spaces := strings.Repeat(" ", 31)
	l := []struct {
		s     string
		words []string
	}{
		{"*0|", nil}, {"*0\n", nil}, {"|", nil}, {"\n", nil}, {" |", nil}, {"\t \r\r|", nil}, {spaces + " \n", nil}, {spaces + "|", nil}, {strings.Repeat("\r", 32) + "\n", nil},
		{"*1|$4|PING|", []string{"PING"}}, {"*1\n$4\nPING|", []string{"PING"}}, {"*2|$3|GET|$1|a|", []string{"GET", "a"}}, {"*2\n$3|GET|$1\na|", []string{"GET", "a"}},
		{"*1|$0||", []string{""}}, {"*3|$0||$0||$0||", []string{"", "", ""}}, {"*3|$1|a|$2|bc|$3|def|", []string{"a", "bc", "def"}}, {"*1|$10|0123456789|", []string{"0123456789"}}, {"*3|$10|0123456789|$10|          |$10||||\r|\r|", []string{"0123456789", "          ", "\r\n\r\n\r\n\r\r\n\r"}},
		{"*1|$2|||", []string{"\r\n"}}, {"*1|$4||||", []string{"\r\n\r\n"}}, {"*2|$2|*1|$2|$1|", []string{"*1", "$1"}}, {"*1|$3|\x00\xff\n|", []string{"\x00\xff\n"}}, {"*1|$5|'a\"b\\|", []string{"'a\"b\\"}},
		{"PING|", []string{"PING"}}, {"PING\n", []string{"PING"}}, {"GET a\n", []string{"GET", "a"}}, {" GET\ta |", []string{"GET", "a"}}, {"SET k 'a b'|", []string{"SET", "k", "a b"}}, {"a b c|", []string{"a", "b", "c"}}, {"0123456789|", []string{"0123456789"}}, {"'0123456789' 0123456789|", []string{"0123456789", "0123456789"}},
		{`"\x41\x42\x43\x44\x45\x46\x47"` + "\n", []string{"ABCDEFG"}}, {`"\\\\\\\\\\\\\\\\\\\\"|`, []string{`\\\\\\\\\\`}}, {"''|", []string{""}}, {"'' '' \"\"\n", []string{"", "", ""}}, {" *1|", []string{"*1"}}, {"\r*1|", []string{"*1"}}, {"$1|", []string{"$1"}}, {"$x|", []string{"$x"}}, {"'*1'|", []string{"*1"}}, {":1|", []string{":1"}}, {"a\r\r|", []string{"a"}}, {"a\rb|", []string{"a", "b"}}, {"\x00|", []string{"\x00"}}, {"\xff\xfe\n", []string{"\xff\xfe"}}, {spaces + "a\n", []string{"a"}}, {spaces[1:] + "a|", []string{"a"}},
	}
	for i := range l {
		l[i].s = lines(l[i].s)
	}
	return l
}

// P4.5, P4.6: arrays and typed lines, and what says nothing, each alone and between others; without its last byte nothing of it is used.
func TestThings(t *testing.T) {
	for _, c := range fine() {
		want := [][]string{}
		if len(c.words) > 0 {
			want = [][]string{c.words}
		}
		if got, fault, used := Whole(few(), c.s); !sameRequests(got, want) || fault != "" || used != len(c.s) {
			t.Errorf("Whole(%q): %q %q %d, want %q", c.s, got, fault, used, want)
		}
		for n := range len(c.s) {
			if got, fault, used := Whole(few(), c.s[:n]); len(got) != 0 || fault != "" || used != 0 {
				t.Errorf("Whole(%q): %q %q %d, want nothing", c.s[:n], got, fault, used)
			}
		}
		for _, d := range fine() {
			want := slices.Clone(want)
			if len(d.words) > 0 {
				want = append(want, d.words)
			}
			if got, fault, used := Whole(few(), c.s+d.s+"*0\r\n\r\n"); !sameRequests(got, want) || fault != "" || used != len(c.s)+len(d.s)+6 {
				t.Errorf("Whole(%q): %q %q %d, want %q", c.s+d.s, got, fault, used, want)
			}
		}
	}
}

// P4.5, P4.6, P4.9: each fault is seen at its byte and not at the one ahead; what stands ahead of it is told, and what stands behind changes nothing.
func TestFaults(t *testing.T) {
	ahead := lines("a b|*0||*1|$1|c|")
	for _, c := range faulty() {
		begun := modelWhole(few(), c.s[:len(c.s)-1])
		for _, behind := range []string{"", "\n", "\r\n", "a", "PING\r\n", "*1\r\n$1\r\na\r\n", "\x00", c.s} {
			got, fault, used := Whole(few(), c.s+behind)
			if !sameRequests(got, begun.requests) || fault != c.fault || used != begun.used {
				t.Errorf("Whole(%q): %q %q %d, want %q %q %d", c.s+behind, got, fault, used, begun.requests, c.fault, begun.used)
			}
		}
		if got, fault, used := Whole(few(), c.s[:len(c.s)-1]); !sameRequests(got, begun.requests) || fault != "" || used != begun.used {
			t.Errorf("Whole(%q): %q %q %d, want no fault", c.s[:len(c.s)-1], got, fault, used)
		}
		got, fault, used := Whole(few(), ahead+c.s)
		want := append([][]string{{"a", "b"}, {"c"}}, begun.requests...)
		if !sameRequests(got, want) || fault != c.fault || used != len(ahead)+begun.used {
			t.Errorf("Whole(%q): %q %q %d, want %q %q", ahead+c.s, got, fault, used, want, c.fault)
		}
	}
}

// P4.5: the greatest limits at their edges and past them.
func TestGreatestLimits(t *testing.T) {
	many := slices.Repeat([]string{"x"}, 65536)
	big := strings.Repeat("y", 1<<20)
	blank := strings.Repeat(" ", 65536-1)
	for _, c := range []struct {
		s        string
		requests [][]string
		fault    string
		used     int
	}{
		{Write(many), [][]string{many}, "", 8 + 7*65536},
		{"*65537\r\n", nil, "count", 0},
		{Write([]string{big, big}), [][]string{{big, big}}, "", 4 + 2*(10+1<<20+2)},
		{"*1\r\n$1048577\r\n", nil, "length", 0},
		{"*1\r\n$1048576\r\n" + big + "y", nil, "end", 0},
		{blank + "a\n", [][]string{{"a"}}, "", 65537},
		{blank + "a\r\n", nil, "line", 0},
		{blank + "aa", nil, "line", 0},
		{blank + "a", nil, "", 0},
		{strings.Repeat("x ", 32768) + "\n", [][]string{many[:32768]}, "", 65537},
		{strings.Repeat("z", 65536) + "\n", [][]string{{strings.Repeat("z", 65536)}}, "", 65537},
		{strings.Repeat("0", 65536) + "\r\n", nil, "line", 0},
		{"*" + strings.Repeat("0", 65535) + "\n", nil, "count", 0},
		{"*" + strings.Repeat("0", 65536), nil, "line", 0},
	} {
		if got, fault, used := Whole(most(), c.s); !sameRequests(got, c.requests) || fault != c.fault || used != c.used {
			t.Errorf("Whole(%.20q ..): %d requests %q %d, want %d %q %d", c.s, len(got), fault, used, len(c.requests), c.fault, c.used)
		}
	}
}

// P4.1, P4.5: each of the limits counts for itself, at every value of some.
func TestEachLimit(t *testing.T) {
	for n := 1; n < 20; n++ {
		words := slices.Repeat([]string{"w"}, n)
		typed := strings.Join(words, " ") + "\n"
		text := strings.Repeat("b", n)
		for limit := 1; limit < 20; limit++ {
			wrong := func(word string) string {
				if n > limit {
					return word
				}
				return ""
			}
			args, bulk := api.Limits{Bulk: 1, Args: limit, Line: 64}, api.Limits{Bulk: limit, Args: 1, Line: 64}
			for _, c := range []struct {
				l     api.Limits
				s     string
				fault string
			}{
				{args, Write(words), wrong("count")}, {args, typed, wrong("words")}, {bulk, Write([]string{text}), wrong("length")}, {bulk, text + "\r\n", wrong("words")},
			} {
				if got, fault, _ := Whole(c.l, c.s); fault != c.fault || (len(got) == 1) != (c.fault == "") {
					t.Errorf("Whole(%v, %q): %q %q, want %q", c.l, c.s, got, fault, c.fault)
				}
			}
		}
	}
	for limit := 32; limit < 70; limit++ {
		l := api.Limits{Bulk: 100, Args: 100, Line: limit}
		for n := 25; n < 80; n++ {
			checkWhole(t, l, strings.Repeat("c", n)+"\n")
			checkWhole(t, l, strings.Repeat("c", n)+"\r\n")
			checkWhole(t, l, strings.Repeat("c", n))
			checkWhole(t, l, "*1\r\n$"+strings.Repeat("1", n)+"\n")
			// The bytes of a bulk are no line.
			checkWhole(t, l, Write([]string{strings.Repeat("c", n)}))
		}
	}
}

// growStream holds Whole against the model for each stream that begins with s and goes on by bytes of the alphabet, one byte behind a fault at most.
func growStream(t *testing.T, s, alphabet string, more int) {
	w := checkWhole(t, few(), s)
	if more == 0 || w.fault != "" && w.at < len(s)-1 {
		return
	}
	for _, c := range []byte(alphabet) {
		growStream(t, s+string([]byte{c}), alphabet, more-1)
	}
}

// P4.6: all short streams, by the model.
func TestWholeShortStreams(t *testing.T) {
	growStream(t, "", "*$1\r\na", 6)
	growStream(t, "", "*03\n'", 7)
	growStream(t, "*1\r\n", "$01\r\nx", 7)
	growStream(t, "*1\r\n$", "-012\r\n", 6)
	growStream(t, "*2\r\n$1\r\n", "$1\r\na", 8)
	growStream(t, "*2\n$0\n\r\n$1", "0$\r\n*", 8)
	growStream(t, strings.Repeat(" ", 28), " a\r\n", 7)
	growStream(t, "*1\r\n$1234567890123456789012345678", "1\r\n", 7)
}

// P4.6: every byte behind each beginning of a thing, by the model.
func TestWholeEveryNextByte(t *testing.T) {
	for _, c := range fine() {
		for n := range len(c.s) + 1 {
			for b := range 256 {
				checkWhole(t, few(), c.s[:n]+string([]byte{byte(b)})+c.s[n:])
			}
		}
	}
}

// randomStream is some things, one behind the other, at times with a byte changed, dropped or added.
func randomStream(r *rand.Rand) string {
	s := ""
	for range 1 + r.Intn(4) {
		s += fine()[r.Intn(len(fine()))].s
	}
	if r.Intn(3) == 0 {
		s += faulty()[r.Intn(len(faulty()))].s
	}
	for range r.Intn(3) {
		at := r.Intn(len(s))
		c := string("\r\n*$'\"\\ 0129a\x00"[r.Intn(14)])
		s = s[:at] + []string{c, "", c + s[at:at+1]}[r.Intn(3)] + s[at+1:]
	}
	return s
}

// P4.6: streams of things, spoilt and whole, by the model.
func TestWholeOfRandomStreams(t *testing.T) {
	r := rand.New(rand.NewSource(6))
	for range 2000 {
		checkWhole(t, few(), randomStream(r))
	}
}

// asking tells how many Nexts are asked behind a Feed at most.
type asking func() int

func never() int  { return 0 }
func once() int   { return 1 }
func always() int { return 1 << 30 }

// models gives what each beginning of a stream comes to.
func models(stream string) []told {
	l := []told{}
	for n := range len(stream) + 1 {
		l = append(l, modelWhole(few(), stream[:n]))
	}
	return l
}

// run is a reader that is fed a stream in pieces, and what it has told.
type run struct {
	t      *testing.T
	r      *Reader
	stream string
	fed    int
	told   int // how many requests
	used   int
	fault  string
}

// feed gives the reader what stands ahead of to, and looks at what it tells.
func (x *run) feed(to int) {
	x.t.Helper()
	x.r.Feed(x.stream[x.fed:to])
	x.fed = to
	x.look()
}

// look holds what the reader tells of itself against what it has told.
func (x *run) look() {
	x.t.Helper()
	held := x.fed - x.used
	if x.fault != "" {
		held = 0
	}
	if x.r.Used() != x.used || x.r.Held() != held || x.r.Fault() != x.fault {
		x.t.Fatalf("%q, behind %d bytes and %d requests: Used %d, Held %d, Fault %q, want %d %d %q", x.stream, x.fed, x.told, x.r.Used(), x.r.Held(), x.r.Fault(), x.used, held, x.fault)
	}
}

// ask asks Next once, holds the answer against what the bytes so far come to, and tells whether it was a request.
func (x *run) ask(w told) bool {
	x.t.Helper()
	words, what := x.r.Next()
	var want []string
	kind := api.RequestMore
	switch {
	case x.told < len(w.requests):
		want, kind, x.used = w.requests[x.told], api.RequestOne, w.ends[x.told]
		x.told++
	case w.fault != "":
		kind, x.used, x.fault = api.RequestFault, w.used, w.fault
	default:
		x.used = w.used
	}
	if !slices.Equal(words, want) || what != kind {
		x.t.Fatalf("%q, behind %d bytes: %q %d, want %q %d", x.stream, x.fed, words, what, want, kind)
	}
	x.look()
	return what == api.RequestOne
}

// checkFeeds feeds a stream in pieces that end at the cuts and at its end, asks between, and asks for all that is left behind the last one.
func checkFeeds(t *testing.T, stream string, want []told, cuts []int, asks asking) {
	t.Helper()
	r, e := New(few())
	if e != api.OK {
		t.Fatal(e)
	}
	x := &run{t: t, r: r, stream: stream}
	x.look()
	for _, to := range cuts {
		x.feed(to)
		for n := asks(); n > 0 && x.ask(want[to]); n-- {
		}
	}
	x.feed(len(stream))
	for x.ask(want[len(stream)]) {
	}
	for range 2 {
		x.ask(want[len(stream)])
	}
	if x.told != len(want[len(stream)].requests) {
		t.Fatalf("%q: %d requests were told", stream, x.told)
	}
}

// P4.4, P4.5, P4.7: short streams, cut in every way, with no Next between, with one, and with as many as there are requests.
func TestFeedEveryCut(t *testing.T) {
	for _, s := range []string{
		"", "a|", "a\nb\n", "a b|c|", "*0|||a|", "*1|$1|a|", "*1\n$1\na|", "*1|$0||b|", "|||a\n", "*x|a|", "a|*4|", "*1|G|a", "*1|$11|", "*1|$1|ab|", "*1|$0|\rx", "*0|'a|a|", "a b c d|", "'a'b|c|", "*2\n$0\n|$", "a\n\nb\n*\n", "\"\\n\"|a|", "*1|$2|||a\n", "\r\r\n*1a\n",
	} {
		s = lines(s)
		want := models(s)
		for ways := range 1 << max(len(s)-1, 0) {
			cuts := []int{}
			for i := 1; i < len(s); i++ {
				if ways>>(i-1)&1 == 1 {
					cuts = append(cuts, i)
				}
			}
			for _, asks := range []asking{never, once, always} {
				checkFeeds(t, s, want, cuts, asks)
			}
		}
	}
}

// P4.4, P4.5, P4.7: longer streams, cut at one and at two places, at every byte, and here and there, with empty pieces too, and with some Nexts between.
func TestFeedLongStreams(t *testing.T) {
	r := rand.New(rand.NewSource(7))
	some := func() int { return r.Intn(3) }
	streams := []string{}
	for _, c := range faulty() {
		streams = append(streams, c.s+"PING\r\n")
	}
	for range 60 {
		streams = append(streams, randomStream(r))
	}
	for _, s := range streams {
		want := models(s)
		every := []int{}
		for i := range len(s) + 1 {
			every = append(every, i)
			checkFeeds(t, s, want, []int{i}, always)
			checkFeeds(t, s, want, []int{i, i + r.Intn(len(s)-i+1)}, some)
		}
		for _, asks := range []asking{never, once, always, some} {
			checkFeeds(t, s, want, every, asks)
		}
		for range 10 {
			cuts, at := []int{}, 0
			for at < len(s) {
				cuts = append(cuts, at)
				at += r.Intn(8)
			}
			checkFeeds(t, s, want, cuts, some)
		}
	}
}

// P4.4, P4.5: the chapter's example, and what is told from call to call.
func TestFeedInTurn(t *testing.T) {
	r, _ := New(few())
	for i, c := range []struct {
		s          string
		words      string
		what       int
		held, used int
		fault      string
	}{
		{"", "", api.RequestMore, 0, 0, ""},
		{"*1|$4|PI", "", api.RequestMore, 10, 0, ""},
		{"NG|", "PING", api.RequestOne, 0, 14, ""},
		{"", "", api.RequestMore, 0, 14, ""},
		{"*0||a b|c\n*2|$1|", "a b", api.RequestOne, 10, 25, ""},
		{"", "c", api.RequestOne, 8, 27, ""},
		{"d|", "", api.RequestMore, 11, 27, ""},
		{"$0|", "", api.RequestMore, 15, 27, ""},
		{"|*0|*0|e|*1|x|f|", "d ", api.RequestOne, 21, 44, ""},
		{"", "e", api.RequestOne, 10, 55, ""},
		{"", "", api.RequestFault, 0, 55, "bulk"},
		{"", "", api.RequestFault, 0, 55, "bulk"},
		{"f|", "", api.RequestFault, 0, 55, "bulk"},
		{"*x|", "", api.RequestFault, 0, 55, "bulk"},
	} {
		r.Feed(lines(c.s))
		words, what := r.Next()
		if strings.Join(words, " ") != c.words || what != c.what || r.Held() != c.held || r.Used() != c.used || r.Fault() != c.fault {
			t.Errorf("step %d (%q): %q %d, Held %d, Used %d, Fault %q, want %v", i, lines(c.s), words, what, r.Held(), r.Used(), r.Fault(), c)
		}
	}
}

// P4.4, P4.5: a fault is told by Next alone: ahead of that what is fed is held, and there is no word.
func TestFaultIsToldByNext(t *testing.T) {
	r, _ := New(few())
	for _, s := range []string{"*0\r\n*x\r\n", "a\r\n", strings.Repeat("z", 100)} {
		before := r.Held()
		r.Feed(s)
		if r.Held() != before+len(s) || r.Fault() != "" || r.Used() != 0 {
			t.Errorf("Feed(%q): Held %d, Fault %q, Used %d", s, r.Held(), r.Fault(), r.Used())
		}
	}
	for range 3 {
		if words, what := r.Next(); len(words) != 0 || what != api.RequestFault || r.Fault() != "count" || r.Held() != 0 || r.Used() != 4 {
			t.Errorf("Next: %q %d, Fault %q, Held %d, Used %d", words, what, r.Fault(), r.Held(), r.Used())
		}
		r.Feed("PING\r\n")
		if r.Fault() != "count" || r.Held() != 0 || r.Used() != 4 {
			t.Errorf("Feed behind a fault: Fault %q, Held %d, Used %d", r.Fault(), r.Held(), r.Used())
		}
	}
}

// P4.8, T10: Whole of Writes, one behind the other, is these requests; of every beginning it is a beginning of them.
func TestThereAndBack(t *testing.T) {
	r := rand.New(rand.NewSource(8))
	for range 1500 {
		want, ends, s := [][]string{}, []int{}, ""
		for range r.Intn(5) {
			words := make([]string, 1+r.Intn(3))
			for i := range words {
				word := make([]byte, r.Intn(11))
				for j := range word {
					word[j] = "\r\n*$'\"\\ 01a\x00\xff"[r.Intn(13)]
				}
				words[i] = string(word)
			}
			s += Write(words)
			want, ends = append(want, words), append(ends, len(s))
		}
		if got, fault, used := Whole(few(), s); !sameRequests(got, want) || fault != "" || used != len(s) {
			t.Fatalf("Whole(%q): %q %q %d, want %q", s, got, fault, used, want)
		}
		for n := range len(s) {
			whole := 0
			for whole < len(ends) && ends[whole] <= n {
				whole++
			}
			used := 0
			if whole > 0 {
				used = ends[whole-1]
			}
			if got, fault, u := Whole(few(), s[:n]); !sameRequests(got, want[:whole]) || fault != "" || u != used {
				t.Fatalf("Whole(%q): %q %q %d, want %q", s[:n], got, fault, u, want[:whole])
			}
		}
	}
}

// P4.9: of every beginning of a stream, whatever it is, Whole has a beginning of the requests; a fault that is seen stays.
func TestBeginnings(t *testing.T) {
	r := rand.New(rand.NewSource(9))
	for range 300 {
		s := randomStream(r)
		all, fault, used := Whole(few(), s)
		at := modelWhole(few(), s).at
		for n := range len(s) + 1 {
			got, f, u := Whole(few(), s[:n])
			if len(got) > len(all) || !sameRequests(got, all[:len(got)]) || u > used {
				t.Fatalf("Whole(%q): %q %d, want a beginning of %q", s[:n], got, u, all)
			}
			seen := at >= 0 && n > at
			if seen && (len(got) != len(all) || f != fault || u != used) || !seen && f != "" {
				t.Fatalf("Whole(%q): %q %q %d, of the whole %q %q %d", s[:n], got, f, u, all, fault, used)
			}
		}
	}
}

// R1: a nil reader answers zero values and does nothing.
func TestNilReader(t *testing.T) {
	var r *Reader
	for _, s := range []string{"", "a\r\n", "*x\r\n"} {
		r.Feed(s)
		if words, what := r.Next(); len(words) != 0 || what != 0 || r.Fault() != "" || r.Held() != 0 || r.Used() != 0 {
			t.Errorf("Next of nil: %q %d, Fault %q, Held %d, Used %d", words, what, r.Fault(), r.Held(), r.Used())
		}
	}
}

// P4.4, R5: readers know nothing of one another, and each keeps its own limits.
func TestTwoReaders(t *testing.T) {
	a, _ := New(few())
	b, _ := New(api.Limits{Bulk: 3, Args: 3, Line: 32})
	for _, r := range []*Reader{a, b} {
		r.Feed("*2\r\n$1\r\na\r\n$4\r")
	}
	for _, r := range []*Reader{a, b} {
		if words, what := r.Next(); len(words) != 0 || what != api.RequestMore {
			t.Errorf("Next: %q %d", words, what)
		}
		r.Feed("\nabcd\r\n")
	}
	if words, what := b.Next(); len(words) != 0 || what != api.RequestFault || b.Fault() != "length" {
		t.Errorf("Next: %q %d %q", words, what, b.Fault())
	}
	if words, what := a.Next(); !slices.Equal(words, []string{"a", "abcd"}) || what != api.RequestOne || a.Fault() != "" {
		t.Errorf("Next: %q %d %q", words, what, a.Fault())
	}
}

// R4: what is fed is not kept: its memory may be written over, ahead of the Next and behind it.
func TestFeedKeepsNothing(t *testing.T) {
	s := lines("*2|$9|bulkbulk1|$9|bulkbulk2|typedtyped 'quotedparts'|")
	want := modelWhole(most(), s).requests
	for cut := range len(s) + 1 {
		r, _ := New(most())
		got := [][]string{}
		for _, piece := range []string{s[:cut], s[cut:]} {
			room := []byte(piece + "|")
			text := unsafe.String(&room[0], len(piece))
			r.Feed(text)
			copy(room, strings.Repeat("?", len(piece)))
			for {
				words, what := r.Next()
				if what != api.RequestOne {
					break
				}
				got = append(got, words)
			}
		}
		if !sameRequests(got, want) {
			t.Fatalf("cut at %d: %q, want %q", cut, got, want)
		}
	}
}

// R4: what is told shares no memory with what came in, with another answer, or with what is kept.
func TestAnswersAreNew(t *testing.T) {
	s := lines("*3|$4|aaaa|$5|bbbbb|$6|cccccc|typed 'quoted part' more|*1|$4|last|")
	want := modelWhole(most(), s).requests
	one, _, _ := Whole(most(), s)
	two, _, _ := Whole(most(), s)
	for i := range one {
		for j, word := range one[i] {
			if shares(word, s) || shares(word, two[i][j]) {
				t.Errorf("the word %q shares memory", word)
			}
		}
	}
	for i := range one {
		spoilList(one[i])
		if !sameRequests(one[i+1:], want[i+1:]) {
			t.Errorf("a request was changed by the one ahead: %q", one)
		}
	}
	if !sameRequests(two, want) {
		t.Errorf("an answer was changed by another: %q", two)
	}
	r, _ := New(most())
	got := [][]string{}
	for i := range len(s) {
		r.Feed(s[i : i+1])
		if words, what := r.Next(); what == api.RequestOne {
			got = append(got, slices.Clone(words))
			spoilList(words)
		}
	}
	if !sameRequests(got, want) {
		t.Errorf("Next behind spoilt answers: %q, want %q", got, want)
	}
}

// R1: bytes that come one by one, with a Next behind each, are not gone over again and again, in whatever thing they stand.
func TestFeedByBytesEnds(t *testing.T) {
	big := strings.Repeat("a", 1<<20)
	began := time.Now()
	for _, c := range []struct {
		s     string
		count int
	}{
		{Write([]string{"x", big}), 1},
		{Write(slices.Repeat([]string{"y"}, 1<<16)), 1},
		{strings.Repeat(strings.Repeat("z", 1<<16-1)+"\r\n", 4), 4},
		{strings.Repeat(strings.Repeat(" ", 1<<16-2)+"z\n", 4), 4},
		{strings.Repeat("\n", 1<<18), 0},
		{strings.Repeat("*0\r\n", 1<<17), 0},
	} {
		r, _ := New(most())
		count := 0
		for i := range len(c.s) {
			r.Feed(c.s[i : i+1])
			if r.Held()+r.Used() != i+1 {
				t.Fatalf("Feed of byte %d: Held %d, Used %d", i, r.Held(), r.Used())
			}
			if _, what := r.Next(); what == api.RequestOne {
				count++
			}
		}
		if count != c.count || r.Used() != len(c.s) || r.Fault() != "" {
			t.Errorf("%.10q .. byte by byte: %d requests, want %d; Used %d, Fault %q", c.s, count, c.count, r.Used(), r.Fault())
		}
	}
	if spent := time.Since(began); spent > time.Minute {
		t.Errorf("it took %v", spent)
	}
}

// R1: a long stream that comes at once is gone over once.
func TestLongStreamsEnd(t *testing.T) {
	began := time.Now()
	for _, c := range []struct {
		s     string
		count int
	}{
		{strings.Repeat("PING\r\n", 1<<18), 1 << 18},
		{strings.Repeat("*1\r\n$4\r\nPING\r\n", 1<<17), 1 << 17},
		{strings.Repeat("\n", 1<<21), 0},
	} {
		if got, fault, used := Whole(most(), c.s); len(got) != c.count || fault != "" || used != len(c.s) {
			t.Errorf("Whole of %.20q ..: %d requests %q %d", c.s, len(got), fault, used)
		}
	}
	if spent := time.Since(began); spent > time.Minute {
		t.Errorf("it took %v", spent)
	}
}
