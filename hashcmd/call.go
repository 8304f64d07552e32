package hashcmd

import (
	"slices"

	"covenant/api"
	"covenant/dict"
	"covenant/num"
	"covenant/space"
)

// call is one request of a command: the space, the tick, the key, and the words behind it.
type call struct {
	space *space.Space
	now   int
	key   string
	args  []string
}

// fields gives the fields of the key, none of an absent one, or the text of an error.
func (c call) fields() ([]api.Field, string) {
	v, there := c.space.Get(c.key, c.now)
	if there && v.Kind != api.KindHash {
		return nil, api.TextWrong
	}
	return v.Fields, ""
}

// read answers what is asked of the fields of the key.
func (c call) read(ask func(fields *dict.Dict) api.Reply) api.Reply {
	held, wrong := c.fields()
	if wrong != "" {
		return refused(wrong)
	}
	return ask(dictOf(held))
}

// change does something to the fields of the key and lays them back. What it answers by an error must leave them as they were.
func (c call) change(do func(fields *dict.Dict) api.Reply) api.Reply {
	was, wrong := c.fields()
	if wrong != "" {
		return refused(wrong)
	}
	fields := dictOf(was)
	answer := do(fields)
	if !c.layBack(was, fields.Fields()) {
		return refused(api.TextLong)
	}
	return answer
}

// dictOf gives a dict of fields that stand in a space: their names rise, so they are a dict's.
func dictOf(held []api.Field) *dict.Dict {
	fields, _ := dict.Of(held)
	return fields
}

// layBack puts fields in the place of those that were there, unless they are the same; the key keeps its deadline, and is dropped if there are none. It answers false if a text is too long.
func (c call) layBack(was, fields []api.Field) bool {
	if slices.Equal(was, fields) {
		return true
	}
	if len(fields) == 0 {
		return c.space.Drop(c.key)
	}
	due, _ := c.space.Due(c.key, c.now)
	// The length of a text is all that can be wrong with fields of a dict.
	return c.space.Put(c.key, api.Value{Kind: api.KindHash, Fields: fields}, due) == api.OK
}

// number reads a word as a number, or gives the text of an error.
func number(word string) (int, string) {
	n, e := num.Parse(word)
	if e != api.OK {
		return 0, api.TextNumber
	}
	return n, ""
}

func ok() api.Reply {
	return api.Reply{Kind: api.ReplySimple, Text: api.TextOK}
}

func null() api.Reply {
	return api.Reply{Kind: api.ReplyNull}
}

func bulk(text string) api.Reply {
	return api.Reply{Kind: api.ReplyBulk, Text: text}
}

func integer(n int) api.Reply {
	return api.Reply{Kind: api.ReplyInt, N: n}
}

func array(list []api.Reply) api.Reply {
	return api.Reply{Kind: api.ReplyArray, List: list}
}

func refused(text string) api.Reply {
	return api.Reply{Kind: api.ReplyError, Text: text}
}
