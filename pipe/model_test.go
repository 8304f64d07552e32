package pipe

import (
	"fmt"
	"math"
	"math/rand"
	"strings"
	"testing"

	"covenant/api"
)

// call is one call of a network.
type call struct {
	what string
	c, n int
	s    string
}

// answer is all that a call answers; what it does not is zero.
type answer struct {
	s  string
	n  int
	ok bool
	e  api.Errno
}

// do is the call of a network.
func do(n *Net, c call) answer {
	var a answer
	switch c.what {
	case "connect":
		a.n, a.e = n.Connect()
	case "send":
		a.e = n.Send(c.c, c.s)
	case "end":
		a.e = n.End(c.c)
	case "take":
		a.s, a.e = n.Take(c.c, c.n)
	case "cut":
		a.e = n.Cut(c.c)
	case "accept":
		a.n, a.ok = n.Accept()
	case "read":
		a.s, a.ok, a.e = n.Read(c.c, c.n)
	case "write":
		a.n, a.e = n.Write(c.c, c.s)
	case "close":
		a.e = n.Close(c.c)
	}
	return a
}

// model is a network by the chapter's words, told another way: of each connection all that went well is kept in its order, and how it stands is asked of that alone.
type model struct {
	window int
	past   [][]call // of each connection; s is what was sent, read, written or taken
}

func newModel(window int) *model {
	return &model{window: window}
}

// did says whether a connection has had such a call.
func (m *model) did(c int, whats ...string) bool {
	for _, p := range m.past[c] {
		for _, what := range whats {
			if p.what == what {
				return true
			}
		}
	}
	return false
}

// all is what a connection's calls of one kind were about, one behind the other.
func (m *model) all(c int, what string) string {
	text := ""
	for _, p := range m.past[c] {
		if p.what == what {
			text += p.s
		}
	}
	return text
}

// waits is what was written and not taken.
func (m *model) waits(c int) string {
	if m.did(c, "cut") {
		return ""
	}
	return strings.TrimPrefix(m.all(c, "write"), m.all(c, "take"))
}

func (m *model) unread(c int) string {
	return strings.TrimPrefix(m.all(c, "send"), m.all(c, "read"))
}

// refused is the error of a call with a number.
func (m *model) refused(c call) api.Errno {
	switch {
	case c.c < 0 || c.c >= len(m.past):
		return api.ErrConn
	case strings.Contains("read write close", c.what) && !m.did(c.c, "accept"):
		return api.ErrConn
	case m.did(c.c, "cut"):
		return api.ErrShut
	case m.did(c.c, "close") && c.what != "take" && c.what != "cut":
		return api.ErrShut
	case m.did(c.c, "end") && (c.what == "send" || c.what == "end"):
		return api.ErrShut
	}
	return api.OK
}

// beginning is the first n bytes of a text, as R7 says.
func beginning(s string, n int) string {
	if n < 0 {
		return ""
	}
	if n > len(s) {
		return s
	}
	return s[:n]
}

func (m *model) do(c call) answer {
	switch c.what {
	case "connect":
		if len(m.past) == api.MaxConns {
			return answer{e: api.ErrConn}
		}
		m.past = append(m.past, nil)
		return answer{n: len(m.past) - 1}
	case "accept":
		for i := range m.past {
			if !m.did(i, "accept") {
				m.past[i] = append(m.past[i], c)
				return answer{n: i, ok: true}
			}
		}
		return answer{}
	}
	if e := m.refused(c); e != api.OK {
		return answer{e: e}
	}
	var a answer
	switch c.what {
	case "take":
		c.s = beginning(m.waits(c.c), c.n)
		a.s = c.s
	case "read":
		c.s = beginning(m.unread(c.c), c.n)
		a.s, a.ok = c.s, m.did(c.c, "end") && c.s == m.unread(c.c)
	case "write":
		c.s = beginning(c.s, m.window-len(m.waits(c.c)))
		a.n = len(c.s)
	}
	m.past[c.c] = append(m.past[c.c], c)
	return a
}

// toldOf is all that a network tells of one number, by calls that change nothing: what was accepted is told by Read of nothing.
func toldOf(n *Net, c int) string {
	l, e := n.Line(c)
	_, end, f := n.Read(c, 0)
	return fmt.Sprintf("%d: sent %q taken %q %+v %d room %d read %t %d; ", c, n.Sent(c), n.Taken(c), l, e, n.Room(c), end, f)
}

// told is all that a network tells.
func told(n *Net) string {
	var out strings.Builder
	for c := -1; c <= n.Conns(); c++ {
		out.WriteString(toldOf(n, c))
	}
	fmt.Fprintf(&out, "conns %d", n.Conns())
	return out.String()
}

// tells is all that a network tells, by the model.
func (m *model) tells() string {
	var out strings.Builder
	for c := -1; c <= len(m.past); c++ {
		sent, taken, l, room, end := "", "", api.Line{}, 0, false
		e, f := api.ErrConn, m.refused(call{what: "read", c: c})
		if c >= 0 && c < len(m.past) {
			sent, taken, e = m.all(c, "send"), m.all(c, "take"), api.OK
			l = api.Line{Waiting: len(m.waits(c)), Closed: m.did(c, "close"), Ended: m.did(c, "end"), Cut: m.did(c, "cut")}
			if !m.did(c, "close", "cut") {
				l.Unread = len(m.unread(c))
			}
			if f == api.OK {
				room, end = m.window-len(m.waits(c)), m.did(c, "end") && m.unread(c) == ""
			}
		}
		fmt.Fprintf(&out, "%d: sent %q taken %q %+v %d room %d read %t %d; ", c, sent, taken, l, e, room, end, f)
	}
	fmt.Fprintf(&out, "conns %d", len(m.past))
	return out.String()
}

// same runs one script on a network and on the model; what both tell is held against each other behind each call from the given one on.
func same(t *testing.T, window int, script []call, from int) {
	t.Helper()
	n, _ := New(window)
	m := newModel(window)
	for i, c := range script {
		if got, want := do(n, c), m.do(c); got != want {
			t.Fatalf("%#v: call %d: %#v, not %#v", script, i, got, want)
		}
		if i < from {
			continue
		}
		if got, want := told(n), m.tells(); got != want {
			t.Fatalf("%#v: behind call %d:\n%s\nnot\n%s", script, i, got, want)
		}
	}
}

// P6.1 to 6.6: every script of few calls about one connection, from none, from one that has come, and from one on which bytes are on their way.
func TestShortScripts(t *testing.T) {
	calls := []call{
		{what: "connect"}, {what: "accept"}, {what: "send", s: "ab"}, {what: "end"}, {what: "take", n: 1}, {what: "take", n: 9},
		{what: "cut"}, {what: "read", n: 1}, {what: "read", n: 9}, {what: "write", s: "uvw"}, {what: "write", s: "x"}, {what: "close"},
	}
	script := make([]call, 0, 10)
	script = append(script, call{what: "connect"}, call{what: "accept"}, call{what: "send", s: "sent"}, call{what: "write", s: "w"})
	for _, first := range []int{0, 1, 4} {
		var walk func(script []call, left int)
		walk = func(script []call, left int) {
			same(t, 3, script, len(script)-1)
			if left == 0 {
				return
			}
			for _, c := range calls {
				walk(append(script[:len(script):len(script)], c), left-1)
			}
		}
		walk(script[:first], 4)
	}
}

// anyCall is a call of any kind about one of a few connections, or about none such.
func anyCall(r *rand.Rand, conns int) call {
	whats := []string{"connect", "accept", "send", "send", "send", "end", "take", "take", "take", "cut", "read", "read", "read", "write", "write", "write", "write", "close"}
	c := call{what: whats[r.Intn(len(whats))], c: r.Intn(conns + 1)}
	// What ends a connection comes seldom, so that much happens ahead of it.
	if strings.Contains("end cut close", c.what) && r.Intn(4) > 0 {
		c.what = "write"
	}
	if r.Intn(20) == 0 {
		c.c = []int{math.MinInt, -1, conns + 1, math.MaxInt}[r.Intn(4)]
	}
	switch c.what {
	case "connect", "accept":
		c.c = 0
	case "send", "write":
		at := r.Intn(200)
		c.s = alphabet[at : at+r.Intn(12)]
	case "take", "read":
		c.n = anyCount[r.Intn(len(anyCount))]
	}
	return c
}

// alphabet is texts of any bytes, of which no piece stands twice nearby.
var alphabet = func() string {
	text := make([]byte, 256)
	for i := range text {
		text[i] = byte(i * 7)
	}
	return string(text)
}()

// P6.1 to 6.7: longer scripts of all calls about several connections.
func TestLongScripts(t *testing.T) {
	r := rand.New(rand.NewSource(6))
	for range 3000 {
		window := 1 + r.Intn(16)
		m := newModel(window)
		var script []call
		for range 50 {
			c := anyCall(r, min(len(m.past), 3))
			m.do(c)
			script = append(script, c)
		}
		same(t, window, script, 0)
	}
}

// P6.7: what was read is a beginning of Sent, Taken one of what was written, and no more than the window ever waits.
func TestBeginnings(t *testing.T) {
	r := rand.New(rand.NewSource(67))
	much := 0
	for range 1000 {
		window := 1 + r.Intn(16)
		n, _ := New(window)
		read, wrote, taken := map[int]string{}, map[int]string{}, map[int]string{}
		for range 100 {
			c := anyCall(r, min(n.Conns(), 2))
			a := do(n, c)
			switch c.what {
			case "read":
				read[c.c] += a.s
			case "write":
				wrote[c.c] += c.s[:a.n]
			case "take":
				taken[c.c] += a.s
			}
			for c := range n.Conns() {
				l, _ := n.Line(c)
				if !strings.HasPrefix(n.Sent(c), read[c]) || n.Taken(c) != taken[c] || !strings.HasPrefix(wrote[c], taken[c]) || l.Waiting > window || l.Waiting > len(wrote[c])-len(taken[c]) {
					t.Fatalf("%d: sent %q, read %q, wrote %q, taken %q and %q, %+v", c, n.Sent(c), read[c], wrote[c], taken[c], n.Taken(c), l)
				}
			}
		}
		for c := range n.Conns() {
			much += min(len(read[c]), len(taken[c]))
		}
	}
	if much < 1000 {
		t.Errorf("only %d bytes went both ways", much)
	}
}
