package setcmd

import (
	"covenant/api"
	"covenant/members"
)

func add(c call) api.Reply { return c.alter(members.Add) }

func remove(c call) api.Reply { return c.alter(members.Remove) }

// alter lays the words behind the key to its set, or takes them away, and tells how many of them made a difference.
func (c call) alter(by func(set []string, words ...string) ([]string, int)) api.Reply {
	return c.with(func(was []string) api.Reply {
		set, n := by(was, c.args[1:]...)
		if n == 0 {
			return integer(0)
		}
		return c.change(c.args[0], set, integer(n))
	})
}

// pop takes away the first element, or as many as a count behind the key says.
func pop(c call) api.Reply {
	switch len(c.args) {
	case 1:
		return c.popOne()
	case 2:
		return c.popSeveral()
	}
	return refused(api.TextSyntax)
}

func (c call) popOne() api.Reply {
	return c.with(func(set []string) api.Reply {
		if len(set) == 0 {
			return null()
		}
		return c.change(c.args[0], set[1:], bulk(set[0]))
	})
}

func (c call) popSeveral() api.Reply {
	n, wrong := countOf(c.args[1])
	if wrong != "" {
		return refused(wrong)
	}
	return c.with(func(set []string) api.Reply {
		taken := min(n, len(set))
		if taken == 0 {
			return bulks(nil)
		}
		return c.change(c.args[0], set[taken:], bulks(set[:taken]))
	})
}

// move takes an element away from the first key's set and lays it to the second one's.
func move(c call) api.Reply {
	from, to, element := c.args[0], c.args[1], c.args[2]
	sets, wrong := c.setsAt(c.args[:2])
	if wrong != "" {
		return refused(wrong)
	}
	left, gone := members.Remove(sets[0], element)
	if gone == 0 {
		return integer(0)
	}
	moved := integer(1)
	if from == to {
		return moved
	}
	c.change(from, left, moved)
	if more, fresh := members.Add(sets[1], element); fresh > 0 {
		c.change(to, more, moved)
	}
	return moved
}
