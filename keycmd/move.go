package keycmd

import "covenant/api"

func rename(c call) api.Reply {
	from, to := c.args[0], c.args[1]
	if !c.isThere(from) {
		return refused(api.TextNoKey)
	}
	c.move(from, to)
	return ok()
}

func renameNew(c call) api.Reply {
	from, to := c.args[0], c.args[1]
	if !c.isThere(from) {
		return refused(api.TextNoKey)
	}
	if c.isThere(to) {
		return count(0)
	}
	c.move(from, to)
	return count(1)
}

func copyKey(c call) api.Reply {
	from, to := c.args[0], c.args[1]
	said, wrong := flagsOf(c.args[2:], flagReplace)
	if wrong != "" {
		return refused(wrong)
	}
	if !c.isThere(from) || from == to || c.isThere(to) && !said.any(flagReplace) {
		return count(0)
	}
	c.lay(from, to)
	return count(1)
}

// move gives a key what another one holds, which holds nothing any more; a key that is moved to itself stays untouched.
func (c call) move(from, to string) {
	if from != to {
		c.lay(from, to)
		c.space.Drop(from)
	}
}

// lay gives a key the value and the deadline of another one that is there.
func (c call) lay(from, to string) {
	v, _ := c.space.Get(from, c.now)
	due, _ := c.space.Due(from, c.now)
	c.space.Put(to, v, due)
}
