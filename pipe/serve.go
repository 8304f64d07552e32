package pipe

import (
	"covenant/api"
)

// Accept lets the server accept the first connection that it has not accepted, whatever became of it.
func (n *Net) Accept() (int, bool) {
	if n == nil || n.accepted == len(n.conns) {
		return 0, false
	}
	n.accepted++
	return n.accepted - 1, true
}

// Read gives the server the first bytes that it has not read, at most so many, and whether nothing can come behind them.
func (n *Net) Read(c, most int) (string, bool, api.Errno) {
	k, e := n.serving(c)
	if k == nil {
		return "", false, e
	}
	s := k.in.pass(most)
	return s, k.in.ended && k.in.left() == 0, api.OK
}

// Write lets as many of the first bytes of s wait for the client as there is room for, and tells how many.
func (n *Net) Write(c int, s string) (int, api.Errno) {
	k, e := n.serving(c)
	if k == nil {
		return 0, e
	}
	fit := min(len(s), n.room(k))
	k.out.put(s[:fit])
	return fit, api.OK
}

// Room tells how many bytes a Write could lay.
func (n *Net) Room(c int) int {
	k, _ := n.serving(c)
	if k == nil {
		return 0
	}
	return n.room(k)
}

// Close closes a connection; what waits can be taken still.
func (n *Net) Close(c int) api.Errno {
	k, e := n.serving(c)
	if k != nil {
		k.out.closed = true
	}
	return e
}

// serving gives a connection that is there for the server.
func (n *Net) serving(c int) (*conn, api.Errno) {
	k, e := n.find(c)
	if k == nil {
		return nil, e
	}
	if c >= n.accepted {
		return nil, api.ErrConn
	}
	if k.shut() {
		return nil, api.ErrShut
	}
	return k, api.OK
}

func (n *Net) room(k *conn) int {
	return n.window - k.out.left()
}
