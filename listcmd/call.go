package listcmd

import (
	"covenant/api"
	"covenant/deque"
	"covenant/num"
	"covenant/space"
)

// call is one request of a command: the space, the tick, and the words behind the name.
type call struct {
	space *space.Space
	now   int
	args  []string
}

// listAt gives the list at a key, one without elements for an absent key, or the text of an error.
func (c call) listAt(key string) (*deque.Deque[string], string) {
	v, there := c.space.Get(key, c.now)
	if there && v.Kind != api.KindList {
		return nil, api.TextWrong
	}
	return deque.Of(v.List...), ""
}

// put puts a list at a key, which keeps the deadline that it has, and gives the answer, unless an element is too long. A key that an empty list is put at is dropped; it is there, since its last element was taken away just now.
func (c call) put(key string, list *deque.Deque[string], answer api.Reply) api.Reply {
	if list.Len() == 0 {
		c.space.Drop(key)
		return answer
	}
	due, _ := c.space.Due(key, c.now)
	// The length of an element is all that can be wrong with a list that has one.
	if c.space.Put(key, api.Value{Kind: api.KindList, List: list.List()}, due) != api.OK {
		return refused(api.TextLong)
	}
	return answer
}

// part gives the words from a place up to an end. It has no room behind its end, where words of the caller's may lie: what is appended to it gets new memory.
func part(words []string, from, end int) []string {
	return words[from:end:end]
}

// behind gives the words behind the first so many.
func behind(words []string, n int) []string {
	return part(words, n, len(words))
}

// number reads a word as a number, or gives the text of an error.
func number(word string) (int, string) {
	n, e := num.Parse(word)
	if e != api.OK {
		return 0, api.TextNumber
	}
	return n, ""
}

// twoNumbers reads two words as numbers, or gives the text of an error.
func twoNumbers(words []string) (int, int, string) {
	one, wrong := number(words[0])
	if wrong != "" {
		return 0, 0, wrong
	}
	other, wrong := number(words[1])
	if wrong != "" {
		return 0, 0, wrong
	}
	return one, other, ""
}

// countOf reads a word as a number that is not below 0, or gives the text of an error.
func countOf(word string) (int, string) {
	n, wrong := number(word)
	if n < 0 {
		return 0, api.TextNumber
	}
	return n, wrong
}

func ok() api.Reply {
	return api.Reply{Kind: api.ReplySimple, Text: api.TextOK}
}

func null() api.Reply {
	return api.Reply{Kind: api.ReplyNull}
}

func bulk(text string) api.Reply {
	return api.Reply{Kind: api.ReplyBulk, Text: text}
}

func integer(n int) api.Reply {
	return api.Reply{Kind: api.ReplyInt, N: n}
}

// bulks gives an array of a bulk for each text.
func bulks(texts []string) api.Reply {
	var list []api.Reply
	for _, text := range texts {
		list = append(list, bulk(text))
	}
	return array(list)
}

func array(list []api.Reply) api.Reply {
	return api.Reply{Kind: api.ReplyArray, List: list}
}

// noArray gives the array that is none.
func noArray() api.Reply {
	return api.Reply{Kind: api.ReplyNone}
}

func refused(text string) api.Reply {
	return api.Reply{Kind: api.ReplyError, Text: text}
}
