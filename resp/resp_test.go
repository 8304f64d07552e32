package resp

import (
	"fmt"
	"math"
	"math/rand"
	"slices"
	"strings"
	"testing"
	"unsafe"

	"covenant/api"
)

func simple(text string) api.Reply        { return api.Reply{Kind: api.ReplySimple, Text: text} }
func failure(text string) api.Reply       { return api.Reply{Kind: api.ReplyError, Text: text} }
func integer(n int) api.Reply             { return api.Reply{Kind: api.ReplyInt, N: n} }
func bulkOf(text string) api.Reply        { return api.Reply{Kind: api.ReplyBulk, Text: text} }
func null() api.Reply                     { return api.Reply{Kind: api.ReplyNull} }
func arrayOf(list ...api.Reply) api.Reply { return api.Reply{Kind: api.ReplyArray, List: list} }
func none() api.Reply                     { return api.Reply{Kind: api.ReplyNone} }

// wrapped lays r into so many arrays, one within the other.
func wrapped(r api.Reply, arrays int) api.Reply {
	for range arrays {
		r = arrayOf(r)
	}
	return r
}

// lines lets | stand for 13 10, as the chapter does.
func lines(s string) string {
	return strings.ReplaceAll(s, "|", "\r\n")
}

// same holds replies against each other; a list that is nil is the same as one of no length.
func same(a, b api.Reply) bool {
	return a.Kind == b.Kind && a.Text == b.Text && a.N == b.N && slices.EqualFunc(a.List, b.List, same)
}

// deepCopy shares no list with r.
func deepCopy(r api.Reply) api.Reply {
	r.List = slices.Clone(r.List)
	for i := range r.List {
		r.List[i] = deepCopy(r.List[i])
	}
	return r
}

// example is a reply that may be, its bytes (with | for 13 10), and what Show tells of it.
type example struct {
	r            api.Reply
	bytes, shown string
}

// known are replies of every kind.
func known() []example {
	deepest := strings.Repeat("*1|", api.MaxDepth)
	return []example{
		{simple("OK"), "+OK|", "OK"},
		{simple(""), "+|", ""},
		{simple("a\"b\\ \x00\t\x7f\xff"), "+a\"b\\ \x00\t\x7f\xff|", "a\"b\\ \x00\t\x7f\xff"},
		{simple("+-:$*"), "++-:$*|", "+-:$*"},
		{failure("ERR syntax"), "-ERR syntax|", "(error) ERR syntax"},
		{failure(""), "-|", "(error) "},
		{failure("\x00\xff"), "-\x00\xff|", "(error) \x00\xff"},
		{failure("-1"), "--1|", "(error) -1"},
		{integer(0), ":0|", "(integer) 0"},
		{integer(7), ":7|", "(integer) 7"},
		{integer(-5), ":-5|", "(integer) -5"},
		{integer(-1), ":-1|", "(integer) -1"},
		{integer(1200), ":1200|", "(integer) 1200"},
		{integer(2147483648), ":2147483648|", "(integer) 2147483648"},
		{integer(math.MaxInt), ":9223372036854775807|", "(integer) 9223372036854775807"},
		{integer(math.MinInt), ":-9223372036854775808|", "(integer) -9223372036854775808"},
		{bulkOf(""), "$0||", `""`},
		{bulkOf("a"), "$1|a|", `"a"`},
		{bulkOf("a\r\nb"), "$4|a|b|", `"a\r\nb"`},
		{bulkOf("\r\n"), "$2|||", `"\r\n"`},
		{bulkOf("\n"), "$1|\n|", `"\n"`},
		{bulkOf("\xc3\xa4"), "$2|\xc3\xa4|", `"\xc3\xa4"`},
		{bulkOf("0123456789"), "$10|0123456789|", `"0123456789"`},
		{null(), "$-1|", "(nil)"},
		{none(), "*-1|", "(none)"},
		{arrayOf(), "*0|", "[]"},
		{arrayOf(simple("a")), "*1|+a|", "[a]"},
		{arrayOf(integer(5), bulkOf("a\""), null()), "*3|:5|$2|a\"|$-1|", `[(integer) 5, "a\"", (nil)]`},
		{arrayOf(none(), arrayOf(), arrayOf(failure("x"), simple("y")), null()), "*4|*-1|*0|*2|-x|+y|$-1|", "[(none), [], [(error) x, y], (nil)]"},
		{arrayOf(arrayOf(arrayOf(integer(1)), integer(2)), integer(3)), "*2|*2|*1|:1|:2|:3|", "[[[(integer) 1], (integer) 2], (integer) 3]"},
		{wrapped(integer(1), api.MaxDepth), deepest + ":1|", "[[[[[[[[(integer) 1]]]]]]]]"},
		{wrapped(arrayOf(), api.MaxDepth-1), strings.Repeat("*1|", api.MaxDepth-1) + "*0|", "[[[[[[[[]]]]]]]]"},
		{wrapped(none(), api.MaxDepth-1), strings.Repeat("*1|", api.MaxDepth-1) + "*-1|", "[[[[[[[(none)]]]]]]]"},
		{wrapped(arrayOf(null(), bulkOf("x"), simple("s"), failure("f")), api.MaxDepth-1), strings.Repeat("*1|", api.MaxDepth-1) + "*4|$-1|$1|x|+s|-f|", "[[[[[[[[(nil), \"x\", s, (error) f]]]]]]]]"},
	}
}

// mayNotBe are replies that break one rule each.
func mayNotBe() []api.Reply {
	l := []api.Reply{
		simple("\r"), simple("\n"), simple("a\r\n"), simple("a\nb"), simple("a\rb"), simple("\r\na"),
		failure("\r"), failure("\n"), failure("a\r\n"), failure("a\nb"), failure("a\rb"), failure("\n\r"),
		wrapped(integer(1), api.MaxDepth+1),
		wrapped(arrayOf(), api.MaxDepth), wrapped(none(), api.MaxDepth),
		wrapped(integer(1), 100), wrapped(none(), 100), wrapped(integer(1), 1<<16),
		arrayOf(integer(1), wrapped(integer(1), api.MaxDepth), integer(2)),
		arrayOf(integer(1), wrapped(none(), api.MaxDepth-1)),
	}
	for _, kind := range []int{0, -1, 8, 9, 256 + api.ReplyInt, math.MinInt, math.MaxInt} {
		l = append(l, api.Reply{Kind: kind}, api.Reply{Kind: kind, Text: "a"}, api.Reply{Kind: kind, N: 1}, api.Reply{Kind: kind, List: []api.Reply{null()}})
	}
	list := []api.Reply{integer(1)}
	for _, r := range []api.Reply{simple("a"), simple(""), failure("a"), integer(3), integer(0), bulkOf("a"), bulkOf(""), null(), none(), arrayOf(), arrayOf(integer(1))} {
		usesText := r.Kind == api.ReplySimple || r.Kind == api.ReplyError || r.Kind == api.ReplyBulk
		if !usesText {
			x := r
			x.Text = "a"
			y := r
			y.Text = "\x00"
			l = append(l, x, y)
		}
		if r.Kind != api.ReplyInt {
			x := r
			x.N = 1
			y := r
			y.N = -1
			l = append(l, x, y)
		}
		if r.Kind != api.ReplyArray {
			x := r
			x.List = list
			y := r
			y.List = []api.Reply{{}}
			l = append(l, x, y)
		}
	}
	// What an element may not be, the array around it may not be.
	for _, r := range slices.Clone(l) {
		l = append(l, arrayOf(r), arrayOf(integer(1), r), arrayOf(r, integer(1)), arrayOf(integer(1), arrayOf(bulkOf(""), r), null()))
	}
	return l
}

// randomReply gives a reply that may be, with arrays at most depth within one another.
func randomReply(r *rand.Rand, depth int) api.Reply {
	kinds := 5
	if depth > 0 {
		kinds = 8
	}
	text := make([]byte, r.Intn(6))
	for i := range text {
		text[i] = "\r\n+-:$*01a\x00\xff"[r.Intn(12)]
	}
	oneLine := strings.NewReplacer("\r", "r", "\n", "n").Replace(string(text))
	switch r.Intn(kinds) {
	case 0:
		return simple(oneLine)
	case 1:
		return failure(oneLine)
	case 2:
		return integer(int(r.Uint64()) >> r.Intn(64))
	case 3:
		return bulkOf(string(text))
	case 4:
		return null()
	case 5:
		return none()
	}
	list := make([]api.Reply, r.Intn(4))
	for i := range list {
		list[i] = randomReply(r, depth-1)
	}
	return arrayOf(list...)
}

// 3.1: replies of every kind may be, and have just their bytes.
func TestEncodeGivesBytes(t *testing.T) {
	for _, c := range known() {
		if !May(c.r) {
			t.Errorf("May(%v): false", c.r)
		}
		if s, e := Encode(c.r); s != lines(c.bytes) || e != api.OK {
			t.Errorf("Encode(%v): %q %d, want %q", c.r, s, e, lines(c.bytes))
		}
	}
}

// 3.1, R3: a list of no length is the same as none, in kinds that do not use it too.
func TestEmptyListIsNone(t *testing.T) {
	for _, c := range known() {
		if len(c.r.List) > 0 {
			continue
		}
		for _, list := range [][]api.Reply{nil, {}, make([]api.Reply, 0, 3), []api.Reply{{Kind: 99}}[:0]} {
			r := c.r
			r.List = list
			if s, e := Encode(r); !May(r) || s != lines(c.bytes) || e != api.OK || Show(r) != c.shown {
				t.Errorf("%v: %t %q %d %q", r, May(r), s, e, Show(r))
			}
		}
	}
}

// 3.1, 3.4: what may not be has no bytes, and is shown by a question mark alone.
func TestRefusesWhatMayNotBe(t *testing.T) {
	for _, r := range mayNotBe() {
		if May(r) {
			t.Errorf("May(%.80v): true", fmt.Sprint(r))
		}
		if s, e := Encode(r); s != "" || e != api.ErrReply {
			t.Errorf("Encode(%.80v): %q %d, want ErrReply", fmt.Sprint(r), s, e)
		}
		if s := Show(r); s != "?" {
			t.Errorf("Show(%.80v): %q, want ?", fmt.Sprint(r), s)
		}
	}
}

// 3.1: of a simple text and an error's just the bytes 13 and 10 may not be; in a bulk all may.
func TestEveryByteInTexts(t *testing.T) {
	for c := range 256 {
		text := "a" + string([]byte{byte(c)}) + "b"
		want := c != 13 && c != 10
		for _, r := range []api.Reply{simple(text), failure(text)} {
			if May(r) != want {
				t.Errorf("May(%v): %t", r, !want)
			}
			if _, e := Encode(r); (e == api.OK) != want {
				t.Errorf("Encode(%v): %d", r, e)
			}
		}
		if s, e := Encode(bulkOf(text)); s != "$3\r\n"+text+"\r\n" || e != api.OK {
			t.Errorf("Encode of the bulk %q: %q %d", text, s, e)
		}
	}
}

// 3.1: arrays, and those that are none with them, stand 8 within one another and no more.
func TestMayByDepth(t *testing.T) {
	for arrays := range 20 {
		for _, c := range []struct {
			r     api.Reply
			depth int
		}{
			{wrapped(integer(1), arrays), arrays},
			{wrapped(null(), arrays), arrays},
			{wrapped(arrayOf(), arrays), arrays + 1},
			{wrapped(none(), arrays), arrays + 1},
			{arrayOf(none(), simple("a"), wrapped(bulkOf("x"), arrays), arrayOf()), arrays + 1},
		} {
			if got, want := May(c.r), c.depth <= 8; got != want {
				t.Errorf("May of %d arrays within one another: %t", c.depth, got)
			}
		}
	}
}

// R1: a list that holds itself, and nesting beyond all sense, are refused, not walked for ever.
func TestEndlessLists(t *testing.T) {
	list := []api.Reply{integer(1), {Kind: api.ReplyArray}, {Kind: api.ReplyArray}, none()}
	list[1].List, list[2].List = list, list
	deep := wrapped(null(), 1<<20)
	for _, r := range []api.Reply{arrayOf(list...), list[1], deep} {
		if May(r) {
			t.Error("May of an endless list: true")
		}
		if s, e := Encode(r); s != "" || e != api.ErrReply {
			t.Errorf("Encode of an endless list: %.20q %d", s, e)
		}
		if s := Show(r); s != "?" {
			t.Errorf("Show of an endless list: %.20q", s)
		}
	}
}

// 3.4: what Show tells of every kind.
func TestShow(t *testing.T) {
	for _, c := range known() {
		if s := Show(c.r); s != c.shown {
			t.Errorf("Show(%v): %q, want %q", c.r, s, c.shown)
		}
	}
}

// 3.4: every byte of a bulk, alone and among others; in an array too.
func TestShowEveryByte(t *testing.T) {
	for c := range 256 {
		want := fmt.Sprintf("\\x%02x", c)
		switch {
		case c == '"':
			want = `\"`
		case c == '\\':
			want = `\\`
		case c == 10:
			want = `\n`
		case c == 13:
			want = `\r`
		case c == 9:
			want = `\t`
		case c >= 32 && c <= 126:
			want = string([]byte{byte(c)})
		}
		one := string([]byte{byte(c)})
		if s := Show(bulkOf(one)); s != `"`+want+`"` {
			t.Errorf("Show of the bulk %d: %s, want %s", c, s, want)
		}
		if s := Show(arrayOf(bulkOf("a"+one+one+"b"), null())); s != `["a`+want+want+`b", (nil)]` {
			t.Errorf("Show of the bulk %d among others: %s, want %s", c, s, want)
		}
	}
}

// 3.1, 3.4, R4: what is handed in is not changed, behind its list's end neither.
func TestArgumentsStay(t *testing.T) {
	for _, c := range known() {
		room := []api.Reply{c.r, integer(7), {Kind: 99, Text: "behind"}}
		r := arrayOf(room[:2]...)
		keep, behind := deepCopy(r), room[2]
		May(r)
		Encode(r)
		Show(r)
		if !same(r, keep) || !same(room[2], behind) {
			t.Errorf("%v was changed to %v", keep, r)
		}
	}
}

// shares says whether two texts have a byte of memory together.
func shares(a, b string) bool {
	if a == "" || b == "" {
		return false
	}
	x, y := uintptr(unsafe.Pointer(unsafe.StringData(a))), uintptr(unsafe.Pointer(unsafe.StringData(b)))
	return x < y+uintptr(len(b)) && y < x+uintptr(len(a))
}

// 3.1, 3.4, R4: bytes and what is shown are new memory.
func TestTextsAreNew(t *testing.T) {
	text := strings.Repeat("long enough ", 10)
	for _, r := range []api.Reply{simple(text), failure(text), bulkOf(text), arrayOf(simple(text))} {
		s, _ := Encode(r)
		if shares(s, text) || shares(Show(r), text) {
			t.Errorf("of %v memory is shared", r)
		}
	}
}
