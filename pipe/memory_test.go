package pipe

import (
	"strings"
	"testing"
	"unsafe"

	"covenant/api"
)

// shares says whether two texts have a byte of memory together.
func shares(a, b string) bool {
	if a == "" || b == "" {
		return false
	}
	x, y := uintptr(unsafe.Pointer(unsafe.StringData(a))), uintptr(unsafe.Pointer(unsafe.StringData(b)))
	return x < y+uintptr(len(b)) && y < x+uintptr(len(a))
}

// R4: what is handed in may change behind the call: none of it is kept.
func TestNothingHandedInIsKept(t *testing.T) {
	n := made(t, 100, "a")
	// A text over bytes that change: a stand-in for memory that the caller uses again.
	room := []byte("what is sent and written")
	text := unsafe.String(&room[0], len(room))
	want := strings.Clone(text)
	n.Send(0, text)
	n.Write(0, text)
	if string(room) != want {
		t.Errorf("what was handed in became %q", room)
	}
	copy(room, "------------------------")
	if s, _, _ := n.Read(0, 8); s != want[:8] || n.Sent(0) != want {
		t.Errorf("Read %q, Sent %q", s, n.Sent(0))
	}
	if s, _ := n.Take(0, 100); s != want || n.Taken(0) != want {
		t.Errorf("Take %q, Taken %q", s, n.Taken(0))
	}
}

// R4: what is handed out shares no memory with another answer, with what is kept or with what was handed in, and stays as it is.
func TestNothingHandedOutIsShared(t *testing.T) {
	n := made(t, 100, "a")
	in, out := "what was sent ahead", "what was written then"
	n.Send(0, in)
	n.Write(0, out)
	read, _, _ := n.Read(0, 100)
	taken, _ := n.Take(0, 100)
	texts := []string{in, out, read, n.Sent(0), n.Sent(0), taken, n.Taken(0), n.Taken(0)}
	for _, kept := range [][]byte{n.conns[0].in.came, n.conns[0].out.came} {
		texts = append(texts, unsafe.String(&kept[0], len(kept)))
	}
	for i, one := range texts {
		for _, other := range texts[:i] {
			if shares(one, other) {
				t.Errorf("%q shares memory with %q", one, other)
			}
		}
	}
	n.Send(0, "more")
	n.Write(0, "more")
	n.Cut(0)
	if read != in || texts[3] != in || taken != out || texts[6] != out {
		t.Errorf("what was handed out became %q %q %q %q", read, texts[3], taken, texts[6])
	}
}

// What waits at Cut is not kept, since nothing can ask for it any more.
func TestCutKeepsNoMore(t *testing.T) {
	n := made(t, api.MaxWindow, "a")
	n.Write(0, strings.Repeat("x", api.MaxWindow))
	n.Take(0, 3)
	n.Cut(0)
	if kept := cap(n.conns[0].out.came); kept > 64 {
		t.Errorf("room for %d bytes is kept", kept)
	}
	if n.Taken(0) != "xxx" {
		t.Errorf("Taken: %q", n.Taken(0))
	}
}

// Many calls about many bytes take their time once.
func TestMuch(t *testing.T) {
	n := made(t, 2, "a")
	const times = 1 << 20
	for i := range times {
		n.Send(0, "xyz")
		n.Read(0, 1+i%4)
		n.Write(0, "uvw")
		n.Take(0, 1+i%2)
	}
	read, end, e := n.Read(0, 3*times)
	if len(n.Sent(0)) != 3*times || len(read) != 3*times-times*10/4 || end || e != api.OK {
		t.Errorf("Sent %d, Read %d %t %d", len(n.Sent(0)), len(read), end, e)
	}
	// By turns two bytes fit of which one is taken, and one fits and both are taken.
	if n.Taken(0) != strings.Repeat("uvu", times/2) {
		t.Errorf("Taken: %q.., %d", n.Taken(0)[:8], len(n.Taken(0)))
	}
}
