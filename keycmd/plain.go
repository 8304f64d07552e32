package keycmd

import (
	"covenant/api"
	"covenant/value"
)

func ping(c call) api.Reply {
	switch len(c.args) {
	case 0:
		return simple(api.TextPong)
	case 1:
		return bulk(c.args[0])
	}
	// The table lets any number of words pass.
	return refused(api.TextArity + "ping")
}

func echo(c call) api.Reply {
	return bulk(c.args[0])
}

func size(c call) api.Reply {
	return count(c.space.Len(c.now))
}

func flush(c call) api.Reply {
	c.space.Clear()
	return ok()
}

func drop(c call) api.Reply {
	n := 0
	for _, key := range c.args {
		// One that is over is left to those who drop what is over: no command sees it.
		if c.isThere(key) {
			c.space.Drop(key)
			n++
		}
	}
	return count(n)
}

func exists(c call) api.Reply {
	n := 0
	for _, key := range c.args {
		if c.isThere(key) {
			n++
		}
	}
	return count(n)
}

func kind(c call) api.Reply {
	// The zero value of an absent key is of the kind none.
	v, _ := c.space.Get(c.args[0], c.now)
	return simple(value.Name(v.Kind))
}
