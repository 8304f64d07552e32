package setcmd

import (
	"covenant/api"
	"covenant/num"
	"covenant/space"
)

// call is one request of a command: the space, the tick, and the words behind the name.
type call struct {
	space *space.Space
	now   int
	args  []string
}

// setAt gives the set at a key, one without elements for an absent key, or the text of an error.
func (c call) setAt(key string) ([]string, string) {
	v, there := c.space.Get(key, c.now)
	if there && v.Kind != api.KindSet {
		return nil, api.TextWrong
	}
	return v.List, ""
}

// with answers what is done with the set at the first key.
func (c call) with(do func(set []string) api.Reply) api.Reply {
	set, wrong := c.setAt(c.args[0])
	if wrong != "" {
		return refused(wrong)
	}
	return do(set)
}

// put puts a set at a key with a deadline and gives the answer, unless an element is too long. In the place of one without elements the key is dropped.
func (c call) put(key string, set []string, due int, answer api.Reply) api.Reply {
	if len(set) == 0 {
		c.drop(key)
		return answer
	}
	// The length of an element is all that can be wrong: the set is members', and every deadline that comes here is a tick or 0.
	if c.space.Put(key, api.Value{Kind: api.KindSet, List: set}, due) != api.OK {
		return refused(api.TextLong)
	}
	return answer
}

// change puts a set at a key, which keeps the deadline that it has, and gives the answer, unless an element is too long.
func (c call) change(key string, set []string, answer api.Reply) api.Reply {
	due, _ := c.space.Due(key, c.now)
	return c.put(key, set, due, answer)
}

// drop drops a key that is there. One that is over is left to those who drop what is over: no command sees it.
func (c call) drop(key string) {
	if _, there := c.space.Due(key, c.now); there {
		c.space.Drop(key)
	}
}

// number reads a word as a number, or gives the text of an error.
func number(word string) (int, string) {
	n, e := num.Parse(word)
	if e != api.OK {
		return 0, api.TextNumber
	}
	return n, ""
}

// countOf reads a word as a number that is not below 0, or gives the text of an error.
func countOf(word string) (int, string) {
	n, wrong := number(word)
	if n < 0 {
		return 0, api.TextNumber
	}
	return n, wrong
}

func null() api.Reply {
	return api.Reply{Kind: api.ReplyNull}
}

func bulk(text string) api.Reply {
	return api.Reply{Kind: api.ReplyBulk, Text: text}
}

func integer(n int) api.Reply {
	return api.Reply{Kind: api.ReplyInt, N: n}
}

func array(list []api.Reply) api.Reply {
	return api.Reply{Kind: api.ReplyArray, List: list}
}

// bulks gives an array of a bulk for each text.
func bulks(texts []string) api.Reply {
	var list []api.Reply
	for _, text := range texts {
		list = append(list, bulk(text))
	}
	return array(list)
}

func refused(text string) api.Reply {
	return api.Reply{Kind: api.ReplyError, Text: text}
}
