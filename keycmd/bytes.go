package keycmd

import (
	"covenant/api"
	"covenant/value"
)

func dump(c call) api.Reply {
	v, there := c.space.Get(c.args[0], c.now)
	if !there {
		return null()
	}
	// A value that a key holds is never refused.
	bytes, _ := value.Encode(v)
	return bulk(bytes)
}

func restore(c call) api.Reply {
	key, bytes := c.args[0], c.args[2]
	n, wrong := number(c.args[1])
	if wrong != "" {
		return refused(wrong)
	}
	if n < 0 || n > api.MaxTick {
		return refused(api.TextDeadline)
	}
	v, length, e := value.Decode(bytes)
	if e != api.OK || length != len(bytes) {
		return refused(api.TextBytes)
	}
	said, wrong := flagsOf(c.args[3:], flagReplace|flagAbsTTL)
	if wrong != "" {
		return refused(wrong)
	}
	due := c.dueOf(n, said)
	if due > api.MaxTick {
		return refused(api.TextDeadline)
	}
	if c.isThere(key) && !said.any(flagReplace) {
		return refused(api.TextBusyKey)
	}
	c.put(key, v, due)
	return ok()
}

// dueOf gives the deadline that the number of a RESTORE means.
func (c call) dueOf(n int, said flags) int {
	if n == 0 || said.any(flagAbsTTL) {
		return n
	}
	return c.now + n
}

// put puts a value at a key with a deadline; if that has come already, nothing is there behind it.
func (c call) put(key string, v api.Value, due int) {
	switch {
	case due == 0 || due > c.now:
		c.space.Put(key, v, due)
	case c.isThere(key):
		c.space.Drop(key)
	}
}
