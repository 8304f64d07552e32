package pipe

import (
	"math"
	"strings"
	"testing"

	"covenant/api"
)

// anyCount are counts below 0, of nothing, of little and of more than there is.
var anyCount = []int{math.MinInt, -1, 0, 1, 2, 3, 4, 5, 6, math.MaxInt}

// wants fails unless a call answered this error.
func wants(t *testing.T, what string, got, want api.Errno) {
	t.Helper()
	if got != want {
		t.Errorf("%s: %d, not %d", what, got, want)
	}
}

// made is a network of this window with one connection, to which happened what the letters say: a Accept, s Send of "sent", r Read of 1, e End, w Write of "wrote", t Take of 1, c Close, x Cut.
func made(t *testing.T, window int, letters string) *Net {
	t.Helper()
	n, e := New(window)
	wants(t, "New", e, api.OK)
	n.Connect()
	happen(t, n, 0, letters)
	return n
}

// happen lets a connection come to what the letters say, each of which must go well.
func happen(t *testing.T, n *Net, c int, letters string) {
	t.Helper()
	for _, letter := range letters {
		e := api.OK
		switch letter {
		case 'a':
			if got, ok := n.Accept(); got != c || !ok {
				t.Fatalf("%s: Accept: %d %t", letters, got, ok)
			}
		case 's':
			e = n.Send(c, "sent")
		case 'r':
			_, _, e = n.Read(c, 1)
		case 'e':
			e = n.End(c)
		case 'w':
			_, e = n.Write(c, "wrote")
		case 't':
			_, e = n.Take(c, 1)
		case 'c':
			e = n.Close(c)
		case 'x':
			e = n.Cut(c)
		}
		if e != api.OK {
			t.Fatalf("%s: %c: %d", letters, letter, e)
		}
	}
}

// callsWithNumbers are all calls with a connection's number that answer an error; each says beside it whether all else that it answered is its zero value.
func callsWithNumbers(n *Net) map[string]func(c int) (api.Errno, bool) {
	return map[string]func(c int) (api.Errno, bool){
		"Send":  func(c int) (api.Errno, bool) { return n.Send(c, "more"), true },
		"End":   func(c int) (api.Errno, bool) { return n.End(c), true },
		"Take":  func(c int) (api.Errno, bool) { s, e := n.Take(c, 2); return e, s == "" },
		"Cut":   func(c int) (api.Errno, bool) { return n.Cut(c), true },
		"Read":  func(c int) (api.Errno, bool) { s, end, e := n.Read(c, 2); return e, s == "" && !end },
		"Write": func(c int) (api.Errno, bool) { laid, e := n.Write(c, "more"); return e, laid == 0 },
		"Close": func(c int) (api.Errno, bool) { return n.Close(c), true },
		"Line":  func(c int) (api.Errno, bool) { l, e := n.Line(c); return e, l == api.Line{} },
	}
}

// P6.1: windows at their ends and outside.
func TestNew(t *testing.T) {
	for _, window := range []int{math.MinInt, -1, 0, api.MaxWindow + 1, math.MaxInt} {
		if n, e := New(window); n != nil || e != api.ErrArg {
			t.Errorf("New(%d): %v %d", window, n, e)
		}
	}
	for _, window := range []int{1, 2, api.MaxWindow - 1, api.MaxWindow} {
		n, e := New(window)
		if n == nil || e != api.OK || n.Conns() != 0 {
			t.Fatalf("New(%d): %v %d", window, n, e)
		}
		n.Connect()
		n.Accept()
		laid, e := n.Write(0, strings.Repeat("x", api.MaxWindow+2))
		if laid != window || e != api.OK {
			t.Errorf("a window of %d: Write: %d %d", window, laid, e)
		}
	}
}

// P6.1: what is done to one network is not seen in another.
func TestTwoNetworks(t *testing.T) {
	n, other := made(t, 4, "asw"), made(t, 9, "")
	n.Connect()
	if n.Conns() != 2 || other.Conns() != 1 || n.Sent(0) != "sent" || other.Sent(0) != "" {
		t.Errorf("%s\n%s", told(n), told(other))
	}
	if c, ok := other.Accept(); c != 0 || !ok || other.Room(0) != 9 {
		t.Errorf("%d %t, Room %d", c, ok, other.Room(0))
	}
}

// P6.1: connections up to MaxConns and beyond; those that are over count as well.
func TestConnect(t *testing.T) {
	n, _ := New(1)
	for c := range api.MaxConns {
		if n.Conns() != c {
			t.Fatalf("Conns: %d, not %d", n.Conns(), c)
		}
		if got, e := n.Connect(); got != c || e != api.OK {
			t.Fatalf("Connect: %d %d, not %d", got, e, c)
		}
	}
	n.Accept()
	for range 3 {
		if c, e := n.Connect(); c != 0 || e != api.ErrConn || n.Conns() != api.MaxConns {
			t.Errorf("Connect: %d %d, Conns %d", c, e, n.Conns())
		}
		n.Close(0)
		n.Cut(api.MaxConns - 1)
	}
	wants(t, "Send to the last", n.Send(api.MaxConns-2, "a"), api.OK)
	wants(t, "Send to none", n.Send(api.MaxConns, "a"), api.ErrConn)
	for c := 1; c < api.MaxConns; c++ {
		if got, ok := n.Accept(); got != c || !ok {
			t.Fatalf("Accept: %d %t, not %d", got, ok, c)
		}
	}
	if c, ok := n.Accept(); c != 0 || ok {
		t.Errorf("Accept behind the last: %d %t", c, ok)
	}
}

// P6.2, 6.4, 6.6: ErrConn of a number that no connection has, whatever else is there.
func TestNoSuchConnection(t *testing.T) {
	for _, letters := range []string{"", "asw", "aswe", "aswc", "aswx"} {
		n := made(t, 9, letters)
		before := told(n)
		for _, c := range []int{math.MinInt, -1, 1, 2, api.MaxConns, math.MaxInt} {
			for what, ask := range callsWithNumbers(n) {
				if e, zero := ask(c); e != api.ErrConn || !zero {
					t.Errorf("%s of %d: %d, all else zero: %t", what, c, e, zero)
				}
			}
			if n.Room(c) != 0 || n.Sent(c) != "" || n.Taken(c) != "" {
				t.Errorf("of %d: Room %d, Sent %q, Taken %q", c, n.Room(c), n.Sent(c), n.Taken(c))
			}
		}
		if after := told(n); after != before {
			t.Errorf("%s changed %s into %s", letters, before, after)
		}
	}
	n, _ := New(1)
	for what, ask := range callsWithNumbers(n) {
		if e, zero := ask(0); e != api.ErrConn || !zero {
			t.Errorf("%s without connections: %d, all else zero: %t", what, e, zero)
		}
	}
}

// P6.2, 6.4: which calls are refused by which error of each kind of connection; of one that was not accepted the server's side answers ErrConn, though it is cut. A call that is refused changes nothing.
func TestErrors(t *testing.T) {
	const (
		client = "Send End Take Cut "
		server = "Read Write Close "
	)
	for _, k := range []struct{ letters, none, shut string }{
		{"", server, ""},
		{"s", server, ""},
		{"se", server, "Send End "},
		{"sx", server, client},
		{"sex", server, client},
		{"sa", "", ""},
		{"aswe", "", "Send End "},
		{"sea", "", "Send End "},
		{"aswc", "", "Send End " + server},
		{"aswec", "", "Send End " + server},
		{"aswx", "", client + server},
		{"sxa", "", client + server},
		{"aswex", "", client + server},
		{"aswcx", "", client + server},
		{"aswrtecx", "", client + server},
	} {
		for what := range callsWithNumbers(nil) {
			n := made(t, 9, k.letters)
			want := api.OK
			if strings.Contains(k.none, what) {
				want = api.ErrConn
			} else if strings.Contains(k.shut, what) {
				want = api.ErrShut
			}
			before := told(n)
			e, zero := callsWithNumbers(n)[what](0)
			if e != want || want != api.OK && !zero {
				t.Errorf("%q: %s: %d, not %d; all else zero: %t", k.letters, what, e, want, zero)
			}
			if after := told(n); want != api.OK && after != before {
				t.Errorf("%q: %s changed %s into %s", k.letters, what, before, after)
			}
		}
	}
}

// P6.2: Send lays behind what was sent, any bytes and none, of one that was not accepted too.
func TestSend(t *testing.T) {
	for _, letters := range []string{"", "a"} {
		n := made(t, 1, letters)
		all := ""
		for _, s := range []string{"", "ab", "", "\x00\xff\r\n", strings.Repeat("long", 1000)} {
			wants(t, "Send", n.Send(0, s), api.OK)
			all += s
			if l, _ := n.Line(0); n.Sent(0) != all || l.Unread != len(all) || l.Ended {
				t.Errorf("Sent %q, %+v; not %q", n.Sent(0), l, all)
			}
		}
	}
}

// P6.2: behind End nothing is sent any more, not even nothing; what was sent can be read, and what is written be taken.
func TestEnd(t *testing.T) {
	n := made(t, 9, "as")
	wants(t, "End", n.End(0), api.OK)
	wants(t, "End", n.End(0), api.ErrShut)
	wants(t, "Send", n.Send(0, "x"), api.ErrShut)
	wants(t, "Send", n.Send(0, ""), api.ErrShut)
	if l, e := n.Line(0); e != api.OK || l != (api.Line{Unread: 4, Ended: true}) {
		t.Errorf("Line: %+v %d", l, e)
	}
	if s, end, e := n.Read(0, 9); s != "sent" || !end || e != api.OK {
		t.Errorf("Read: %q %t %d", s, end, e)
	}
	if laid, e := n.Write(0, "w"); laid != 1 || e != api.OK {
		t.Errorf("Write: %d %d", laid, e)
	}
	if s, e := n.Take(0, 9); s != "w" || e != api.OK {
		t.Errorf("Take: %q %d", s, e)
	}
}

// P6.2: Take of fewer, as many and more bytes than wait; also of one that is closed, or whose client has ended.
func TestTake(t *testing.T) {
	for _, letters := range []string{"aw", "awc", "awe", "awec"} {
		for _, most := range anyCount {
			n := made(t, 9, letters)
			want := "wrote"[:min(max(most, 0), 5)]
			if s, e := n.Take(0, most); s != want || e != api.OK || n.Taken(0) != want {
				t.Errorf("%s: Take(%d): %q %d, Taken %q; not %q", letters, most, s, e, n.Taken(0), want)
			}
			if l, _ := n.Line(0); l.Waiting != 5-len(want) {
				t.Errorf("%s: behind Take(%d): %+v", letters, most, l)
			}
			if s, e := n.Take(0, 9); s != "wrote"[len(want):] || e != api.OK || n.Taken(0) != "wrote" {
				t.Errorf("%s: Take(%d), Take: %q %d, Taken %q", letters, most, s, e, n.Taken(0))
			}
			if s, e := n.Take(0, 9); s != "" || e != api.OK || n.Taken(0) != "wrote" {
				t.Errorf("%s: Take of nothing: %q %d, Taken %q", letters, s, e, n.Taken(0))
			}
		}
	}
}

// P6.2: of one that was not accepted Take is no error, but nothing waits there.
func TestTakeOfWhatWasNotAccepted(t *testing.T) {
	for _, letters := range []string{"", "s", "se"} {
		for _, most := range anyCount {
			n := made(t, 9, letters)
			if s, e := n.Take(0, most); s != "" || e != api.OK || n.Taken(0) != "" {
				t.Errorf("%q: Take(%d): %q %d, Taken %q", letters, most, s, e, n.Taken(0))
			}
		}
	}
}

// P6.2: what waits at Cut is never taken; what was taken and what was sent is told still.
func TestCut(t *testing.T) {
	for _, letters := range []string{"", "s", "se", "asrwt", "asrwte", "asrwtc", "asrwtec"} {
		n := made(t, 9, letters)
		sent, taken := n.Sent(0), n.Taken(0)
		wants(t, letters+": Cut", n.Cut(0), api.OK)
		want := api.Line{Cut: true, Ended: strings.Contains(letters, "e"), Closed: strings.Contains(letters, "c")}
		for range 2 {
			if l, e := n.Line(0); l != want || e != api.OK {
				t.Errorf("%s: Line: %+v %d", letters, l, e)
			}
			if n.Sent(0) != sent || n.Taken(0) != taken || n.Room(0) != 0 {
				t.Errorf("%s: Sent %q, Taken %q, Room %d", letters, n.Sent(0), n.Taken(0), n.Room(0))
			}
			if s, e := n.Take(0, 9); s != "" || e != api.ErrShut {
				t.Errorf("%s: Take: %q %d", letters, s, e)
			}
			wants(t, letters+": Cut", n.Cut(0), api.ErrShut)
		}
	}
}

// P6.3: Accept goes by the numbers, whatever became of a connection, and tells when there is none left.
func TestAccept(t *testing.T) {
	n, _ := New(4)
	none := func() {
		t.Helper()
		if c, ok := n.Accept(); c != 0 || ok {
			t.Errorf("Accept with none left: %d %t", c, ok)
		}
	}
	one := func(want int) {
		t.Helper()
		if c, ok := n.Accept(); c != want || !ok {
			t.Errorf("Accept: %d %t, not %d", c, ok, want)
		}
	}
	none()
	for range 4 {
		n.Connect()
	}
	n.Cut(0)
	n.End(1)
	n.Send(3, "x")
	one(0)
	one(1)
	if n.Room(1) != 4 || n.Room(2) != 0 {
		t.Errorf("Room: %d of what is accepted, %d of what is not", n.Room(1), n.Room(2))
	}
	n.Connect()
	n.Cut(3)
	n.Close(1)
	one(2)
	one(3)
	one(4)
	none()
	none()
	n.Connect()
	one(5)
	none()
	wants(t, "Close of what was cut ahead of Accept", n.Close(0), api.ErrShut)
	wants(t, "Close", n.Close(5), api.OK)
}

// P6.4: Read of fewer, as many and more bytes than there are, with End ahead of them and without.
func TestRead(t *testing.T) {
	for _, letters := range []string{"as", "ase", "sea"} {
		ended := strings.Contains(letters, "e")
		for _, most := range anyCount {
			n := made(t, 9, letters)
			want := "sent"[:min(max(most, 0), 4)]
			if s, end, e := n.Read(0, most); s != want || end != (ended && want == "sent") || e != api.OK {
				t.Errorf("%s: Read(%d): %q %t %d", letters, most, s, end, e)
			}
			if l, _ := n.Line(0); l.Unread != 4-len(want) || n.Sent(0) != "sent" {
				t.Errorf("%s: behind Read(%d): %+v, Sent %q", letters, most, l, n.Sent(0))
			}
			if s, end, e := n.Read(0, 9); s != "sent"[len(want):] || end != ended || e != api.OK {
				t.Errorf("%s: Read(%d), Read: %q %t %d", letters, most, s, end, e)
			}
			if s, end, e := n.Read(0, most); s != "" || end != ended || e != api.OK {
				t.Errorf("%s: Read(%d) of nothing: %q %t %d", letters, most, s, end, e)
			}
		}
	}
}

// P6.4: that nothing can come is told as soon as the client has ended and all is read, also with nothing sent at all and with End behind the last byte's Read.
func TestReadAtTheEnd(t *testing.T) {
	n := made(t, 9, "a")
	ends := func(most int, text string, want bool) {
		t.Helper()
		if s, end, e := n.Read(0, most); s != text || end != want || e != api.OK {
			t.Errorf("Read(%d): %q %t %d, not %q %t", most, s, end, e, text, want)
		}
	}
	ends(9, "", false)
	n.Send(0, "abc")
	ends(3, "abc", false)
	ends(0, "", false)
	n.Send(0, "de")
	ends(1, "d", false)
	n.End(0)
	ends(0, "", false)
	ends(-1, "", false)
	ends(1, "e", true)
	ends(0, "", true)
	ends(9, "", true)

	n = made(t, 9, "ae")
	ends(9, "", true)
	n = made(t, 9, "asw")
	ends(9, "sent", false)
	n.End(0)
	ends(0, "", true)
}

// P6.4: Write with no room, some and much, of no bytes and many; as many as fit are laid.
func TestWrite(t *testing.T) {
	for window := 1; window <= 8; window++ {
		for first := range 10 {
			for second := range 10 {
				n := made(t, window, "a")
				texts := "012345678"[:first] + "abcdefghi"[:second]
				laid, e := n.Write(0, texts[:first])
				if laid != min(first, window) || e != api.OK {
					t.Errorf("window %d: Write of %d: %d %d", window, first, laid, e)
				}
				more, e := n.Write(0, texts[first:])
				if more != min(second, window-laid) || e != api.OK {
					t.Errorf("window %d: Write of %d behind %d: %d %d", window, second, laid, more, e)
				}
				if l, _ := n.Line(0); l.Waiting != laid+more || n.Room(0) != window-laid-more {
					t.Errorf("window %d: %+v, Room %d", window, l, n.Room(0))
				}
				want := texts[:laid] + texts[first:first+more]
				if s, _ := n.Take(0, math.MaxInt); s != want || n.Room(0) != window {
					t.Errorf("window %d: Take: %q, not %q; Room %d", window, s, want, n.Room(0))
				}
			}
		}
	}
}

// P6.4: what is taken makes room for as much.
func TestWriteBehindTake(t *testing.T) {
	n := made(t, 5, "aw")
	for i, most := range []int{0, 1, 2, 5, 9} {
		s, _ := n.Take(0, most)
		if n.Room(0) != len(s) {
			t.Errorf("%d: Room %d behind %q", i, n.Room(0), s)
		}
		if laid, e := n.Write(0, "much more than that"); laid != len(s) || e != api.OK || n.Room(0) != 0 {
			t.Errorf("%d: Write: %d %d, Room %d", i, laid, e, n.Room(0))
		}
	}
}

// P6.4: behind Close the server does nothing more and the client sends nothing more, but what waits is taken.
func TestClose(t *testing.T) {
	n := made(t, 9, "asrw")
	wants(t, "Close", n.Close(0), api.OK)
	wants(t, "Close", n.Close(0), api.ErrShut)
	wants(t, "Send", n.Send(0, "x"), api.ErrShut)
	wants(t, "End", n.End(0), api.ErrShut)
	if l, e := n.Line(0); l != (api.Line{Waiting: 5, Closed: true}) || e != api.OK {
		t.Errorf("Line: %+v %d", l, e)
	}
	if s, end, e := n.Read(0, 9); s != "" || end || e != api.ErrShut {
		t.Errorf("Read: %q %t %d", s, end, e)
	}
	if laid, e := n.Write(0, ""); laid != 0 || e != api.ErrShut {
		t.Errorf("Write: %d %d", laid, e)
	}
	if s, e := n.Take(0, 2); s != "wr" || e != api.OK {
		t.Errorf("Take: %q %d", s, e)
	}
	wants(t, "Cut", n.Cut(0), api.OK)
	if l, e := n.Line(0); l != (api.Line{Closed: true, Cut: true}) || e != api.OK || n.Taken(0) != "wr" || n.Sent(0) != "sent" {
		t.Errorf("Line: %+v %d, Taken %q, Sent %q", l, e, n.Taken(0), n.Sent(0))
	}
}

// P6.5, 6.6: what is told of each kind of connection.
func TestRoomAndLine(t *testing.T) {
	for _, k := range []struct {
		letters     string
		room        int
		sent, taken string
		line        api.Line
	}{
		{"", 0, "", "", api.Line{}},
		{"s", 0, "sent", "", api.Line{Unread: 4}},
		{"se", 0, "sent", "", api.Line{Unread: 4, Ended: true}},
		{"sx", 0, "sent", "", api.Line{Cut: true}},
		{"sex", 0, "sent", "", api.Line{Cut: true, Ended: true}},
		{"a", 7, "", "", api.Line{}},
		{"as", 7, "sent", "", api.Line{Unread: 4}},
		{"asr", 7, "sent", "", api.Line{Unread: 3}},
		{"aw", 2, "", "", api.Line{Waiting: 5}},
		{"aww", 0, "", "", api.Line{Waiting: 7}},
		{"awt", 3, "", "w", api.Line{Waiting: 4}},
		{"awtttttt", 7, "", "wrote", api.Line{}},
		{"asrwte", 3, "sent", "w", api.Line{Unread: 3, Waiting: 4, Ended: true}},
		{"asrwtc", 0, "sent", "w", api.Line{Waiting: 4, Closed: true}},
		{"asrwtec", 0, "sent", "w", api.Line{Waiting: 4, Closed: true, Ended: true}},
		{"asrwtx", 0, "sent", "w", api.Line{Cut: true}},
		{"asrwtex", 0, "sent", "w", api.Line{Cut: true, Ended: true}},
		{"asrwtectx", 0, "sent", "wr", api.Line{Cut: true, Ended: true, Closed: true}},
		{"sxa", 0, "sent", "", api.Line{Cut: true}},
	} {
		n := made(t, 7, k.letters)
		for range 2 {
			l, e := n.Line(0)
			if l != k.line || e != api.OK || n.Room(0) != k.room || n.Sent(0) != k.sent || n.Taken(0) != k.taken {
				t.Errorf("%q: %+v %d, Room %d, Sent %q, Taken %q", k.letters, l, e, n.Room(0), n.Sent(0), n.Taken(0))
			}
		}
	}
}

// P6.7: a call about one connection changes nothing of the others, of whatever kind they are.
func TestOthersStay(t *testing.T) {
	kinds := []string{"asrwt", "asrwte", "asrwtc", "asrwtx", "s", "se", "sx", ""}
	const accepted = 4
	build := func() *Net {
		n, _ := New(9)
		for c, letters := range kinds {
			n.Connect()
			happen(t, n, c, letters)
		}
		return n
	}
	for c := range kinds {
		for what := range callsWithNumbers(nil) {
			n := build()
			var before []string
			for other := range kinds {
				before = append(before, toldOf(n, other))
			}
			callsWithNumbers(n)[what](c)
			for other := range kinds {
				if after := toldOf(n, other); other != c && after != before[other] {
					t.Errorf("%s of %d: %s became %s", what, c, before[other], after)
				}
			}
			if got, ok := n.Accept(); got != accepted || !ok || n.Conns() != len(kinds) {
				t.Errorf("%s of %d: Accept %d %t, Conns %d", what, c, got, ok, n.Conns())
			}
		}
	}
}

// R1: a nil network, which New gives beside its error, answers zero values and does nothing.
func TestNil(t *testing.T) {
	n, _ := New(0)
	for range 2 {
		if c, e := n.Connect(); c != 0 || e != api.OK || n.Conns() != 0 {
			t.Errorf("Connect: %d %d, Conns %d", c, e, n.Conns())
		}
		if c, ok := n.Accept(); c != 0 || ok {
			t.Errorf("Accept: %d %t", c, ok)
		}
		for _, c := range []int{math.MinInt, -1, 0, 1, math.MaxInt} {
			for what, ask := range callsWithNumbers(n) {
				if e, zero := ask(c); e != api.OK || !zero {
					t.Errorf("%s of %d: %d, all else zero: %t", what, c, e, zero)
				}
			}
			if n.Room(c) != 0 || n.Sent(c) != "" || n.Taken(c) != "" {
				t.Errorf("of %d: Room %d, Sent %q, Taken %q", c, n.Room(c), n.Sent(c), n.Taken(c))
			}
		}
	}
}

// A network that is no call's answer has no window: nothing panics, and nothing ever waits.
func TestNotMadeByNew(t *testing.T) {
	n := &Net{}
	if c, ok := n.Accept(); c != 0 || ok || n.Conns() != 0 {
		t.Errorf("Accept: %d %t, Conns %d", c, ok, n.Conns())
	}
	for what, ask := range callsWithNumbers(n) {
		if e, zero := ask(0); e != api.ErrConn || !zero {
			t.Errorf("%s: %d, all else zero: %t", what, e, zero)
		}
	}
	n.Connect()
	happen(t, n, 0, "asrw")
	if l, e := n.Line(0); l != (api.Line{Unread: 3}) || e != api.OK || n.Room(0) != 0 {
		t.Errorf("Line: %+v %d, Room %d", l, e, n.Room(0))
	}
	happen(t, n, 0, "cx")
}

// The chapter's examples.
func TestExamples(t *testing.T) {
	script := []call{
		{what: "connect"}, {what: "read", n: 9}, {what: "accept"}, {what: "accept"},
		{what: "send", s: "abc"}, {what: "read", n: 2}, {what: "end"}, {what: "read", n: 9}, {what: "read", n: 9}, {what: "send", s: "d"},
		{what: "write", s: "uvwxyz"}, {what: "take", n: 3}, {what: "write", s: "yz"}, {what: "close"}, {what: "write", s: "!"}, {what: "take", n: 9},
		{what: "connect"}, {what: "send", c: 1, s: "a"}, {what: "cut", c: 1}, {what: "accept"}, {what: "read", c: 1, n: 9}, {what: "take", c: 1, n: 1}, {what: "cut", c: 1}, {what: "send", c: 2, s: "a"},
	}
	want := []answer{
		{}, {e: api.ErrConn}, {ok: true}, {},
		{}, {s: "ab"}, {}, {s: "c", ok: true}, {ok: true}, {e: api.ErrShut},
		{n: 4}, {s: "uvw"}, {n: 2}, {}, {e: api.ErrShut}, {s: "xyz"},
		{n: 1}, {}, {}, {n: 1, ok: true}, {e: api.ErrShut}, {e: api.ErrShut}, {e: api.ErrShut}, {e: api.ErrConn},
	}
	room := map[int]int{9: 4, 10: 0, 11: 3, 12: 1, 13: 0}
	n, _ := New(4)
	m := newModel(4)
	for i, c := range script {
		if got := do(n, c); got != want[i] {
			t.Errorf("call %d, %+v: %+v, not %+v", i, c, got, want[i])
		}
		// The model that the other tests hold networks against must agree with the examples itself.
		if got := m.do(c); got != want[i] {
			t.Errorf("call %d, %+v: the model says %+v, not %+v", i, c, got, want[i])
		}
		if left, ok := room[i]; ok && n.Room(0) != left {
			t.Errorf("behind call %d, %+v: Room %d, not %d", i, c, n.Room(0), left)
		}
	}
	if l, e := n.Line(1); n.Taken(0) != "uvwxyz" || l != (api.Line{Cut: true}) || e != api.OK {
		t.Errorf("Taken %q, %+v %d", n.Taken(0), l, e)
	}
}
