package strcmd

import (
	"math"

	"covenant/api"
	"covenant/blob"
	"covenant/num"
)

func lengthen(c call) api.Reply {
	key := c.args[0]
	was, wrong := c.stringAt(key)
	if wrong != "" {
		return refused(wrong)
	}
	text := was.text + c.args[1]
	return c.change(key, text, count(len(text)))
}

func overlay(c call) api.Reply {
	key, laid := c.args[0], c.args[2]
	at, wrong := offset(c.args[1], math.MaxInt)
	if wrong != "" {
		return refused(wrong)
	}
	was, wrong := c.stringAt(key)
	if wrong != "" {
		return refused(wrong)
	}
	if laid == "" {
		return count(len(was.text))
	}
	text, e := blob.Splice(was.text, at, laid)
	if e != api.OK {
		return refused(api.TextLong)
	}
	return c.change(key, text, count(len(text)))
}

func increase(c call) api.Reply {
	return add(c, 1)
}

func decrease(c call) api.Reply {
	return add(c, -1)
}

func increaseBy(c call) api.Reply {
	by, wrong := number(c.args[1])
	if wrong != "" {
		return refused(wrong)
	}
	return add(c, by)
}

func decreaseBy(c call) api.Reply {
	n, wrong := number(c.args[1])
	if wrong != "" {
		return refused(wrong)
	}
	by, e := num.Sub(0, n)
	// The least int's own negative is no int: the argument is at fault, whatever the key holds.
	if e != api.OK {
		return refused(api.TextOverflow)
	}
	return add(c, by)
}

// add adds to the number at the first word's key.
func add(c call, by int) api.Reply {
	key := c.args[0]
	was, wrong := c.stringAt(key)
	if wrong != "" {
		return refused(wrong)
	}
	text := was.text
	if !was.there {
		text = "0"
	}
	sum, n, e := blob.Incr(text, by)
	switch e {
	case api.ErrNumber:
		return refused(api.TextNumber)
	case api.ErrOver:
		return refused(api.TextOverflow)
	}
	return c.change(key, sum, count(n))
}
