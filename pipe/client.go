package pipe

import (
	"covenant/api"
)

// Send lays s behind what the client sent.
func (n *Net) Send(c int, s string) api.Errno {
	k, e := n.sending(c)
	if k != nil {
		k.in.put(s)
	}
	return e
}

// End says that the client sends no more.
func (n *Net) End(c int) api.Errno {
	k, e := n.sending(c)
	if k != nil {
		k.in.ended = true
	}
	return e
}

// Take gives the client the first bytes that wait, at most so many.
func (n *Net) Take(c, most int) (string, api.Errno) {
	k, e := n.whole(c)
	if k == nil {
		return "", e
	}
	return k.out.pass(most), api.OK
}

// Cut breaks a connection: nothing goes through it any more.
func (n *Net) Cut(c int) api.Errno {
	k, e := n.whole(c)
	if k != nil {
		k.cut = true
		k.out.drop()
	}
	return e
}

// whole gives a connection that is not cut.
func (n *Net) whole(c int) (*conn, api.Errno) {
	k, e := n.find(c)
	if k != nil && k.cut {
		return nil, api.ErrShut
	}
	return k, e
}

// sending gives a connection whose client may send.
func (n *Net) sending(c int) (*conn, api.Errno) {
	k, e := n.find(c)
	if k != nil && (k.in.ended || k.shut()) {
		return nil, api.ErrShut
	}
	return k, e
}
