package keycmd

import (
	"covenant/api"
	"covenant/num"
	"covenant/space"
)

// call is one request of a command: the space, the tick (from 0 to MaxTick), and the words behind the name.
type call struct {
	space *space.Space
	now   int
	args  []string
}

// isThere says whether a key holds anything. It asks for the deadline, since Get would copy the value.
func (c call) isThere(key string) bool {
	_, there := c.space.Due(key, c.now)
	return there
}

// number reads a word as a number, or gives the text of an error.
func number(word string) (int, string) {
	n, e := num.Parse(word)
	if e != api.OK {
		return 0, api.TextNumber
	}
	return n, ""
}

func ok() api.Reply {
	return simple(api.TextOK)
}

func simple(text string) api.Reply {
	return api.Reply{Kind: api.ReplySimple, Text: text}
}

func null() api.Reply {
	return api.Reply{Kind: api.ReplyNull}
}

func bulk(text string) api.Reply {
	return api.Reply{Kind: api.ReplyBulk, Text: text}
}

func count(n int) api.Reply {
	return api.Reply{Kind: api.ReplyInt, N: n}
}

func array(list []api.Reply) api.Reply {
	return api.Reply{Kind: api.ReplyArray, List: list}
}

func refused(text string) api.Reply {
	return api.Reply{Kind: api.ReplyError, Text: text}
}
