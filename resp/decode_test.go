package resp

import (
	"fmt"
	"math"
	"math/big"
	"math/rand"
	"regexp"
	"strings"
	"testing"
	"time"

	"covenant/api"
)

var (
	wholeLine   = regexp.MustCompile(`^([^\r\n]*)\r\n`)
	begunLine   = regexp.MustCompile(`^[^\r\n]*\r?$`)
	wholeNumber = regexp.MustCompile(`^(0|-?[1-9][0-9]*)\r\n`)
	begunNumber = regexp.MustCompile(`^(-?|(0|-?[1-9][0-9]*)\r?)$`)
)

// modelNumber reads a number and its line's end by the chapter's words, the text being looked at as a whole.
func modelNumber(s string, least, greatest int) (int, int, api.Errno) {
	within := func(text string) bool {
		n, ok := new(big.Int).SetString(text, 10)
		return ok && n.Cmp(big.NewInt(int64(least))) >= 0 && n.Cmp(big.NewInt(int64(greatest))) <= 0
	}
	if m := wholeNumber.FindStringSubmatch(s); m != nil && within(m[1]) {
		n, _ := new(big.Int).SetString(m[1], 10)
		return int(n.Int64()), len(m[0]), api.OK
	}
	if digits := strings.TrimSuffix(s, "\r"); begunNumber.MatchString(s) && (digits == "" || digits == "-" || within(digits)) {
		return 0, 0, api.ErrMore
	}
	return 0, 0, api.ErrReply
}

// modelBulk reads a bulk's text and its line's end.
func modelBulk(s string, length int) (string, int, api.Errno) {
	if len(s) >= length+2 && s[length:length+2] == "\r\n" {
		return s[:length], length + 2, api.OK
	}
	if len(s) <= length || s[length:] == "\r" {
		return "", 0, api.ErrMore
	}
	return "", 0, api.ErrReply
}

// modelList reads an array's elements.
func modelList(s string, length, depth int) ([]api.Reply, int, api.Errno) {
	list, at := []api.Reply{}, 0
	for range length {
		r, n, e := modelDecode(s[at:], depth)
		if e != api.OK {
			return nil, 0, e
		}
		list, at = append(list, r), at+n
	}
	return list, at, api.OK
}

// modelDecode is Decode by the chapter's words, where an array would be the depth-th one within another.
func modelDecode(s string, depth int) (api.Reply, int, api.Errno) {
	if s == "" {
		return api.Reply{}, 0, api.ErrMore
	}
	r, n, at, e := api.Reply{}, 0, 0, api.ErrReply
	switch s[0] {
	case '+', '-':
		if m := wholeLine.FindStringSubmatch(s[1:]); m != nil {
			r, at, e = api.Reply{Kind: api.ReplySimple, Text: m[1]}, len(m[0]), api.OK
			if s[0] == '-' {
				r.Kind = api.ReplyError
			}
		} else if begunLine.MatchString(s[1:]) {
			e = api.ErrMore
		}
	case ':':
		n, at, e = modelNumber(s[1:], math.MinInt, math.MaxInt)
		r = integer(n)
	case '$':
		n, at, e = modelNumber(s[1:], -1, 2147483647)
		r = null()
		if e == api.OK && n >= 0 {
			text, length, f := modelBulk(s[1+at:], n)
			r, at, e = bulkOf(text), at+length, f
		}
	case '*':
		if depth > 8 {
			break
		}
		n, at, e = modelNumber(s[1:], -1, 2147483647)
		r = none()
		if e == api.OK && n >= 0 {
			list, length, f := modelList(s[1+at:], n, depth+1)
			r, at, e = arrayOf(list...), at+length, f
		}
	}
	if e != api.OK {
		return api.Reply{}, 0, e
	}
	return r, 1 + at, api.OK
}

// checkDecode holds Decode against the model.
func checkDecode(t *testing.T, s string) api.Errno {
	t.Helper()
	want, length, f := modelDecode(s, 1)
	r, n, e := Decode(s)
	if !same(r, want) || n != length || e != f {
		t.Fatalf("Decode(%q): %v %d %d, want %v %d %d", s, r, n, e, want, length, f)
	}
	return e
}

// told is what a decoder comes to: the replies so far, what is held, whether it has failed.
type told struct {
	replies []api.Reply
	held    int
	failed  bool
}

// modelFeed is what a stream comes to, the text being looked at as a whole.
func modelFeed(s string) told {
	w := told{}
	for {
		r, n, e := modelDecode(s, 1)
		if e != api.OK {
			w.failed = e == api.ErrReply
			if !w.failed {
				w.held = len(s)
			}
			return w
		}
		w.replies = append(w.replies, r)
		s = s[n:]
	}
}

// models gives what each beginning of a stream comes to.
func models(stream string) []told {
	l := []told{}
	for n := range len(stream) + 1 {
		l = append(l, modelFeed(stream[:n]))
	}
	return l
}

// checkFeeds feeds a stream in pieces that end at the cuts and at its end, and holds the decoder behind each against what the bytes so far come to.
func checkFeeds(t *testing.T, stream string, want []told, cuts []int) {
	t.Helper()
	d := New()
	got, from := told{}, 0
	for _, to := range append(append([]int{}, cuts...), len(stream)) {
		l, e := d.Feed(stream[from:to])
		if e != api.OK && e != api.ErrReply || got.failed && (len(l) != 0 || e != api.ErrReply) {
			t.Fatalf("Feed(%q) of %q, cut at %v: %v %d", stream[from:to], stream, cuts, l, e)
		}
		got = told{append(got.replies, l...), d.Held(), e == api.ErrReply}
		w := want[to]
		if !same(arrayOf(got.replies...), arrayOf(w.replies...)) || got.held != w.held || got.failed != w.failed {
			t.Fatalf("%q, cut at %v: %v behind %d bytes, want %v", stream, cuts, got, to, w)
		}
		from = to
	}
}

// streams are rows of bytes with replies, beginnings and faults in them.
func streams() []string {
	l := []string{
		"", "+|", "+OK|:1", "+OK|:1|?", "?+a|", "+a||+b|", "-e|+a\n", "+a\r+b|", "+a\r\r\n", "$4|a|b|:7|", "$0||$-1|", "$2|ab", "$2|abc|", "$1|a\r", "$1|a\rx",
		"*-1|*0|:3|", "*2|:1|", "*2|:1|*0|+", "*1|*1|+a|-b", "*1|*1|:0|:00|", "*1|*1|$-2|", ":-0|", ":12:3|", ":-7|:-", "*1|x", "*00|", "$1|a||", "\r\n+a|", "+a|\n", "\x00", "\xff\xfe",
	}
	for i := range l {
		l[i] = lines(l[i])
	}
	return l
}

// longStreams are some too long to be cut in every way.
func longStreams() []string {
	deepest := strings.Repeat("*1|", 8)
	l := []string{
		"+OK|-ERR syntax|:-9223372036854775808|$4|a|b|$-1|*-1|*0|*3|:1|*2|+a|$0||$-1|:9223372036854775807|",
		deepest + ":1|" + deepest + "$-1|+a|", deepest + "*", deepest + ":1|" + deepest + "*1|", strings.Repeat("*1|", 7) + "*-1|" + deepest + "+a", strings.Repeat("*2|*0|", 8) + ":5|",
		"*3|+a|*2|$3|abc|:7|-e|+next|:9223372036854775808|", "$2147483647|abc", "*2147483647|:1|:2|", "$2147483648|", ":1|:2|:3|:4|:5|:6|:7|:8|:9|:10|:011|", "*1|*1|*1|$12|\r\n\r\n\r\n\r\n\r\n\r\n|*-1",
	}
	for i := range l {
		l[i] = lines(l[i])
	}
	r := rand.New(rand.NewSource(3))
	for range 60 {
		s := ""
		for range 1 + r.Intn(4) {
			bytes, _ := Encode(randomReply(r, 8))
			s += bytes
		}
		l = append(l, s, s[:r.Intn(len(s)+1)], spoilt(r, s))
	}
	return l
}

// spoilt changes, drops or adds one byte.
func spoilt(r *rand.Rand, s string) string {
	at := r.Intn(len(s))
	c := string("\r\n+-:$*0129a\x00"[r.Intn(13)])
	switch r.Intn(3) {
	case 0:
		return s[:at] + c + s[at+1:]
	case 1:
		return s[:at] + s[at+1:]
	}
	return s[:at] + c + s[at:]
}

// 3.2: the bytes of a reply are read as it, whatever stands behind.
func TestDecodeGivesReplies(t *testing.T) {
	for _, c := range known() {
		s := lines(c.bytes)
		for _, behind := range []string{"", "x", "\r\n", "\n", "+a\r\n", "*9\r\n", "\x00", "\xff", "1", "-", s} {
			if r, n, e := Decode(s + behind); !same(r, c.r) || n != len(s) || e != api.OK {
				t.Errorf("Decode(%q): %v %d %d, want %v %d", s+behind, r, n, e, c.r, len(s))
			}
		}
	}
}

// 3.2, 3.5: a reply without one or more bytes at its end wants more, and is never refused.
func TestDecodeOfBeginnings(t *testing.T) {
	for _, c := range known() {
		s := lines(c.bytes)
		for n := range len(s) {
			if r, m, e := Decode(s[:n]); !same(r, api.Reply{}) || m != 0 || e != api.ErrMore {
				t.Errorf("Decode(%q): %v %d %d, want ErrMore", s[:n], r, m, e)
			}
		}
	}
}

// 3.2: beginnings that no whole reply of the tests has.
func TestDecodeWantsMore(t *testing.T) {
	deepest := strings.Repeat("*1|", 8)
	for _, s := range []string{
		"", "+", "+a", "+a\r", "+\r", "-", "-a\r", ":", ":-", ":-1", ":0", ":0\r", ":10\r", ":922337203685477580", ":9223372036854775807", ":9223372036854775807\r", ":-9223372036854775808", ":-9223372036854775808\r",
		"$", "$-", "$-1", "$-1\r", "$0", "$0\r", "$0|", "$0|\r", "$3|ab", "$3|abc", "$3|abc\r", "$2|\r", "$2||", "$2||\r",
		"$214748364", "$2147483647", "$2147483647\r", "$2147483647|", "$2147483647|a|", "$999999999|", "*", "*-", "*-1\r", "*0\r", "*1|", "*2|:1|", "*2|:1|:", "*2147483647", "*2147483647|", "*2147483647|:1|:2|", "*999999999|*2147483647|$2147483647|",
		deepest, deepest + ":", deepest + "$", deepest + "+", deepest + "-", deepest + "$-1\r", strings.Repeat("*1|", 7) + "*", strings.Repeat("*1|", 7) + "*-", strings.Repeat("*2147483647|", 8),
	} {
		if r, n, e := Decode(lines(s)); !same(r, api.Reply{}) || n != 0 || e != api.ErrMore {
			t.Errorf("Decode(%q): %v %d %d, want ErrMore", lines(s), r, n, e)
		}
	}
}

// 3.2: what is no beginning is refused, at the very byte that spoils it.
func TestDecodeRefuses(t *testing.T) {
	deepest := strings.Repeat("*1|", 8)
	for _, s := range []string{
		"x", "\r", "\n", "|", " ", "0", "\x00", "\xff", "+\n", "+a\n", "+a\r\r", "+a\rb", "+a\r ", "-\n", "-a\n", "-a\r-",
		":\r", ":|", ":+", ":+1", ": ", ":1 ", ":a", ":1a", ":1.", ":1e", ":1_", ":1-", ":--", ":-\r", ":-0", ":-+", ":00", ":01", ":05|", ":-01", ":1\n", ":1\r\r", ":1\rx", ":0x", ":\x00",
		":9223372036854775808", ":-9223372036854775809", ":92233720368547758070", ":99999999999999999999", ":18446744073709551617",
		"$\r", "$|", "$+", "$ ", "$a", "$-0", "$-2", "$-2|", "$-10", "$-\r", "$--", "$00", "$01", "$1\n", "$1\rx", "$1 ", "$2147483648", "$2147483648|", "$2147483650", "$3000000000", "$9999999999", "$21474836470", "$9223372036854775808", "$18446744073709551616", "$-9223372036854775809",
		"$-1\n", "$-1\r\r", "$0|x", "$0|\n", "$0|\rx", "$3|abcd", "$3|abc\n", "$3|abc\rx", "$1||", "$2|a||", "$1|ab|",
		"*\r", "*|", "*+", "*a", "*-0", "*-2", "*-10", "*-\r", "*00", "*01", "*1\n", "*1\r\r", "*2147483648", "*2147483650", "*4294967296", "*4294967297", "*9999999999", "*21474836470", "*9223372036854775808",
		"*1|x", "*1||", "*2|:1|x", "*2|:1||", "*1|:01", "*1|*1|$-2", "*1|*-2", "*1|$1|ab",
		deepest + "*", deepest + "*0|", deepest + "*-1|", deepest + "*-", deepest + "x", strings.Repeat("*2|", 8) + ":1|*", strings.Repeat("*1|", 9), strings.Repeat("*1|", 1<<16), strings.Repeat("*2147483647|", 9), strings.Repeat("*", 100),
	} {
		s = lines(s)
		if r, n, e := Decode(s); !same(r, api.Reply{}) || n != 0 || e != api.ErrReply {
			t.Errorf("Decode(%.80q): %v %d %d, want ErrReply", s, r, n, e)
		}
		if l, e := New().Feed(s); len(l) != 0 || e != api.ErrReply {
			t.Errorf("Feed(%.80q): %v %d, want ErrReply", s, l, e)
		}
	}
}

// 3.2: an array is told to be too deep at its *, and one that stands beside another is no deeper.
func TestDecodeByDepth(t *testing.T) {
	for arrays := range 12 {
		s := strings.Repeat("*1\r\n", arrays)
		want, inner := api.ErrMore, api.OK
		if arrays > 8 {
			want, inner = api.ErrReply, api.ErrReply
		}
		if _, _, e := Decode(s); e != want {
			t.Errorf("Decode of %d arrays: %d, want %d", arrays, e, want)
		}
		if _, _, e := Decode(s + ":1\r\n"); e != inner {
			t.Errorf("Decode of a number in %d arrays: %d, want %d", arrays, e, inner)
		}
		if arrays >= 8 {
			want, inner = api.ErrReply, api.ErrReply
		}
		if _, _, e := Decode(s + "*"); e != want {
			t.Errorf("Decode of %d arrays and a *: %d, want %d", arrays, e, want)
		}
		for _, last := range []string{"*0\r\n", "*-1\r\n"} {
			if _, _, e := Decode(s + last); e != inner {
				t.Errorf("Decode of %d arrays and %q: %d, want %d", arrays, last, e, inner)
			}
		}
	}
	wide := lines("*3|" + strings.Repeat("*1|", 7) + "*0|" + "*-1|" + strings.Repeat("*1|", 7) + ":1|")
	if _, _, e := Decode(wide); e != api.ErrReply {
		t.Errorf("Decode(%q): %d", wide, e)
	}
	wide = lines("*3|" + strings.Repeat("*1|", 6) + "*0|" + "*-1|" + strings.Repeat("*1|", 7) + ":1|")
	if r, n, e := Decode(wide); e != api.OK || n != len(wide) || len(r.List) != 3 {
		t.Errorf("Decode(%q): %v %d %d", wide, r, n, e)
	}
}

// grow holds Decode against the model for each text that begins with s, goes on by bytes of the alphabet, and is one byte longer than a beginning of a reply at most.
func grow(t *testing.T, s, alphabet string, longest int) {
	e := checkDecode(t, s)
	if e != api.ErrMore || len(s) == longest {
		return
	}
	for _, c := range []byte(alphabet) {
		grow(t, s+string([]byte{c}), alphabet, longest)
	}
}

// 3.2: all short texts, by the model.
func TestDecodeShortTexts(t *testing.T) {
	grow(t, "", "+-:$*09\r\nx", 6)
	for _, begun := range []string{":", "$", "*", "*2\r\n:", "*2\r\n$", "*2\r\n*"} {
		grow(t, begun, "-:$*01\r\n", len(begun)+8)
	}
	grow(t, "*2\r\n", ":*1\r\n", 20)
}

// 3.2: every byte behind each beginning of a reply, by the model.
func TestDecodeEveryNextByte(t *testing.T) {
	for _, c := range known() {
		s := lines(c.bytes)
		for n := range len(s) + 1 {
			for b := range 256 {
				checkDecode(t, s[:n]+string([]byte{byte(b)}))
			}
		}
	}
}

// 3.2: spoilt replies, by the model.
func TestDecodeSpoilt(t *testing.T) {
	r := rand.New(rand.NewSource(2))
	for range 20000 {
		s, _ := Encode(randomReply(r, 8))
		for range 1 + r.Intn(2) {
			s = spoilt(r, s+"x")
		}
		checkDecode(t, s)
	}
}

// 3.5, T10: Decode of Encode is the reply and its length, whatever stands behind; Encode of what Decode tells is the very bytes; a beginning is never refused.
func TestThereAndBack(t *testing.T) {
	r := rand.New(rand.NewSource(1))
	for range 5000 {
		x := randomReply(r, 8)
		s, e := Encode(x)
		if e != api.OK {
			t.Fatalf("Encode(%v): %d", x, e)
		}
		for _, behind := range []string{"", "\r\n", "+a\r\n", "?", s} {
			if y, n, e := Decode(s + behind); !same(y, x) || n != len(s) || e != api.OK {
				t.Fatalf("Decode(%q): %v %d %d, want %v", s+behind, y, n, e, x)
			}
		}
		for n := range len(s) {
			if _, m, e := Decode(s[:n]); m != 0 || e != api.ErrMore {
				t.Fatalf("Decode(%q): %d %d, want ErrMore", s[:n], m, e)
			}
		}
		bad := spoilt(r, s)
		if y, n, e := Decode(bad); e == api.OK {
			if back, f := Encode(y); f != api.OK || back != bad[:n] || !May(y) {
				t.Fatalf("Encode of Decode(%q): %q %d", bad, back, f)
			}
		}
	}
}

// 3.3: the chapter's example, and what is held from Feed to Feed.
func TestFeedInTurn(t *testing.T) {
	d := New()
	for i, c := range []struct {
		s    string
		want []api.Reply
		e    api.Errno
		held int
	}{
		{"", nil, api.OK, 0},
		{"+OK|:1", []api.Reply{simple("OK")}, api.OK, 2},
		{"", nil, api.OK, 2},
		{"2", nil, api.OK, 3},
		{"|", []api.Reply{integer(12)}, api.OK, 0},
		{"*2|$3|a", nil, api.OK, 9},
		{"bc|", nil, api.OK, 13},
		{"*1|:4", nil, api.OK, 19},
		{"|+x|-y|$-1|*-1|*", []api.Reply{arrayOf(bulkOf("abc"), arrayOf(integer(4))), simple("x"), failure("y"), null(), none()}, api.OK, 1},
		{"0\r", nil, api.OK, 3},
		{"\n:1", []api.Reply{arrayOf()}, api.OK, 2},
		{"|?", []api.Reply{integer(1)}, api.ErrReply, 0},
		{"+a|", nil, api.ErrReply, 0},
		{"", nil, api.ErrReply, 0},
		{":1", nil, api.ErrReply, 0},
		{"?", nil, api.ErrReply, 0},
	} {
		l, e := d.Feed(lines(c.s))
		if !same(arrayOf(l...), arrayOf(c.want...)) || e != c.e || d.Held() != c.held {
			t.Errorf("Feed %d (%q): %v %d %d, want %v %d %d", i, lines(c.s), l, e, d.Held(), c.want, c.e, c.held)
		}
	}
}

// 3.3: a reply that fails within leaves nothing held, and the next ones are not told.
func TestFeedFails(t *testing.T) {
	for _, s := range []string{"x", "*2|:1|:01", "$3|abcd", "*1|*1|x", "+a\n", "*2147483648", "+a|+b|$-2|+c|", "*1|+a|*1|+b||"} {
		s = lines(s)
		d := New()
		w := modelFeed(s)
		if l, e := d.Feed(s); !same(arrayOf(l...), arrayOf(w.replies...)) || e != api.ErrReply || d.Held() != 0 {
			t.Errorf("Feed(%q): %v %d %d", s, l, e, d.Held())
		}
		for range 3 {
			if l, e := d.Feed("+a\r\n"); len(l) != 0 || e != api.ErrReply || d.Held() != 0 {
				t.Errorf("Feed behind a fault: %v %d %d", l, e, d.Held())
			}
		}
	}
}

// 3.3, R1: a nil decoder, and one that New did not give.
func TestNilDecoder(t *testing.T) {
	var d *Decoder
	for _, s := range []string{"", "+a\r\n", "?"} {
		if l, e := d.Feed(s); len(l) != 0 || e != api.ErrReply || d.Held() != 0 {
			t.Errorf("Feed(%q) of nil: %v %d %d", s, l, e, d.Held())
		}
	}
	zero := &Decoder{}
	if l, e := zero.Feed("+a\r\n:"); len(l) != 1 || e != api.OK || zero.Held() != 1 {
		t.Errorf("Feed of a zero decoder: %v %d %d", l, e, zero.Held())
	}
	if d := New(); d == nil || d.Held() != 0 {
		t.Error("New does not give a decoder that holds nothing")
	}
}

// 3.3, R5: decoders know nothing of one another.
func TestTwoDecoders(t *testing.T) {
	a, b := New(), New()
	a.Feed("$3\r\nab")
	b.Feed("?")
	if l, e := a.Feed("c\r\n"); len(l) != 1 || l[0].Text != "abc" || e != api.OK {
		t.Errorf("Feed beside one that failed: %v %d", l, e)
	}
	if l, e := b.Feed("+a\r\n"); len(l) != 0 || e != api.ErrReply {
		t.Errorf("Feed of one that failed: %v %d", l, e)
	}
}

// 3.5: short streams, cut in every way.
func TestFeedEveryCut(t *testing.T) {
	for _, s := range streams() {
		want := models(s)
		for ways := range 1 << max(len(s)-1, 0) {
			cuts := []int{}
			for i := 1; i < len(s); i++ {
				if ways>>(i-1)&1 == 1 {
					cuts = append(cuts, i)
				}
			}
			checkFeeds(t, s, want, cuts)
		}
	}
}

// 3.5: longer streams, cut at one and at two places, at every byte, and here and there, with empty pieces too.
func TestFeedLongStreams(t *testing.T) {
	r := rand.New(rand.NewSource(4))
	for _, s := range longStreams() {
		want := models(s)
		every := []int{}
		for i := range len(s) + 1 {
			every = append(every, i)
			checkFeeds(t, s, want, []int{i})
			checkFeeds(t, s, want, []int{i, i + r.Intn(len(s)-i+1)})
		}
		checkFeeds(t, s, want, every)
		for range 30 {
			cuts, at := []int{}, 0
			for at < len(s) {
				cuts = append(cuts, at)
				at += r.Intn(8)
			}
			checkFeeds(t, s, want, cuts)
		}
	}
}

// texts gives all texts of a reply.
func texts(r api.Reply) []string {
	l := []string{r.Text}
	for _, x := range r.List {
		l = append(l, texts(x)...)
	}
	return l
}

// spoil changes all lists of a reply, and writes into their spare room.
func spoil(r api.Reply) {
	for i := range r.List {
		spoil(r.List[i])
		r.List[i] = api.Reply{Kind: 99, Text: "spoilt"}
	}
	room := r.List[:cap(r.List)]
	for i := len(r.List); i < len(room); i++ {
		room[i] = api.Reply{Kind: 99, Text: "spoilt"}
	}
}

// R4: what is told shares no memory with what came in, with another answer, or with what is kept.
func TestAnswersAreNew(t *testing.T) {
	s := lines("*3|*3|:1|$4|abcd|+ef|*1|-gh|*3|*2|:1|:2|:3|$2|ij|")
	want, _, _ := modelDecode(s, 1)
	one, _, _ := Decode(s)
	two, _, _ := Decode(s)
	for _, text := range texts(one) {
		if shares(text, s) {
			t.Errorf("the text %q shares memory with what was handed in", text)
		}
	}
	for i := range one.List {
		keep := deepCopy(one)
		spoil(one.List[i])
		keep.List[i] = one.List[i]
		if !same(one, keep) {
			t.Errorf("a list of %v shares memory with another", keep)
		}
	}
	spoil(one)
	if !same(two, want) {
		t.Errorf("an answer was changed by another: %v", two)
	}
	d := New()
	first, _ := d.Feed(s + s + s[:30])
	if len(first) != 2 {
		t.Fatalf("Feed told %d replies", len(first))
	}
	spoil(first[0])
	if !same(first[1], want) {
		t.Errorf("a reply was changed by the one ahead: %v", first[1])
	}
	spoil(arrayOf(first...))
	second, e := d.Feed(s[30:] + s)
	if e != api.OK || !same(arrayOf(second...), arrayOf(want, want)) {
		t.Errorf("Feed behind spoilt answers: %v %d", second, e)
	}
	for _, r := range second {
		for _, text := range texts(r) {
			if shares(text, s) {
				t.Errorf("the text %q shares memory with what was handed in", text)
			}
		}
	}
}

// R1: bytes that come one by one are not gone over again and again, in whatever kind of reply they stand.
func TestFeedByBytesEnds(t *testing.T) {
	const length = 1 << 20
	long := strings.Repeat("a", length)
	inner := strings.Repeat("*1\r\n", 8)
	began := time.Now()
	for _, s := range []string{
		fmt.Sprintf("%s$%d\r\n%s\r\n", inner, length, long),
		inner + "+" + long + "\r\n",
		fmt.Sprintf("*%d\r\n%s", length/4, strings.Repeat(":7\r\n", length/4)),
	} {
		d := New()
		count := 0
		for i := range len(s) {
			l, e := d.Feed(s[i : i+1])
			if e != api.OK || i < len(s)-1 && d.Held() != i+1 {
				t.Fatalf("Feed of byte %d: %v %d %d", i, l, e, d.Held())
			}
			count += len(l)
		}
		if count != 1 || d.Held() != 0 {
			t.Errorf("Feed byte by byte: %d replies, %d held", count, d.Held())
		}
	}
	if spent := time.Since(began); spent > time.Minute {
		t.Errorf("it took %v", spent)
	}
}
