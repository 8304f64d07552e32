package strcmd

import (
	"covenant/api"
	"covenant/num"
	"covenant/space"
)

// call is one request of a command: the space, the tick, and the words behind the name.
type call struct {
	space *space.Space
	now   int
	args  []string
}

// held is the string at a key.
type held struct {
	text  string
	there bool // false: the key is absent, and the text empty
}

// bulk gives the string as a reply, the bulk that is none for an absent key.
func (h held) bulk() api.Reply {
	if !h.there {
		return null()
	}
	return bulk(h.text)
}

// stringAt gives the string at a key, or the text of an error.
func (c call) stringAt(key string) (held, string) {
	v, there := c.space.Get(key, c.now)
	if there && v.Kind != api.KindText {
		return held{}, api.TextWrong
	}
	return held{text: v.Text, there: there}, ""
}

// isThere says whether a key holds anything, of whatever kind. It asks for the deadline, since Get would copy the value.
func (c call) isThere(key string) bool {
	_, there := c.space.Due(key, c.now)
	return there
}

// dueOf gives the deadline of a key; 0, if it is absent or has none.
func (c call) dueOf(key string) int {
	due, _ := c.space.Due(key, c.now)
	return due
}

// put puts a text at a key with a deadline and gives the answer, unless the text is too long.
func (c call) put(key, text string, due int, answer api.Reply) api.Reply {
	// Its length is all that can be wrong with it: every deadline that comes here is a tick or 0.
	if c.space.Put(key, api.Value{Kind: api.KindText, Text: text}, due) != api.OK {
		return refused(api.TextLong)
	}
	return answer
}

// change puts a text at a key, which keeps the deadline that it has, and gives the answer, unless the text is too long.
func (c call) change(key, text string, answer api.Reply) api.Reply {
	return c.put(key, text, c.dueOf(key), answer)
}

// drop drops a key that is there. One that is over is left to those who drop what is over: no command sees it.
func (c call) drop(key string) {
	if c.isThere(key) {
		c.space.Drop(key)
	}
}

// number reads a word as a number, or gives the text of an error.
func number(word string) (int, string) {
	n, e := num.Parse(word)
	if e != api.OK {
		return 0, api.TextNumber
	}
	return n, ""
}

// numbers reads words as numbers, or gives the text of an error.
func numbers(words []string) ([]int, string) {
	var all []int
	for _, word := range words {
		n, wrong := number(word)
		if wrong != "" {
			return nil, wrong
		}
		all = append(all, n)
	}
	return all, ""
}

// offset reads a word as a number from 0 to last, or gives the text of an error.
func offset(word string, last int) (int, string) {
	n, wrong := number(word)
	if wrong != "" {
		return 0, wrong
	}
	if n < 0 || n > last {
		return 0, api.TextOffset
	}
	return n, ""
}

func ok() api.Reply {
	return api.Reply{Kind: api.ReplySimple, Text: api.TextOK}
}

func null() api.Reply {
	return api.Reply{Kind: api.ReplyNull}
}

func bulk(text string) api.Reply {
	return api.Reply{Kind: api.ReplyBulk, Text: text}
}

func count(n int) api.Reply {
	return api.Reply{Kind: api.ReplyInt, N: n}
}

func refused(text string) api.Reply {
	return api.Reply{Kind: api.ReplyError, Text: text}
}
