package listcmd

import (
	"covenant/api"
	"covenant/deque"
	"covenant/table"
)

// end is one of the two ends of a list.
type end int

const (
	first end = iota
	last
)

// endOf reads a word as an end, or gives the text of an error.
func endOf(word string) (end, string) {
	switch table.Lower(word) {
	case "left":
		return first, ""
	case "right":
		return last, ""
	}
	return 0, api.TextSyntax
}

// lay lays elements at an end of a list, one behind the other.
func lay(list *deque.Deque[string], at end, elements []string) {
	if at == first {
		list.PushFront(elements...)
	} else {
		list.PushBack(elements...)
	}
}

// take takes n elements away at an end of a list, or as many as there are, and gives them, the outermost ahead.
func take(list *deque.Deque[string], at end, n int) []string {
	if at == first {
		return list.PopFront(n)
	}
	return list.PopBack(n)
}

func pushFirst(c call) api.Reply { return c.push(first) }

func pushLast(c call) api.Reply { return c.push(last) }

func pushFirstIfThere(c call) api.Reply { return c.pushIfThere(first) }

func pushLastIfThere(c call) api.Reply { return c.pushIfThere(last) }

// push lays the words behind the key at an end of its list, and tells how long that is then.
func (c call) push(at end) api.Reply {
	key := c.args[0]
	list, wrong := c.listAt(key)
	if wrong != "" {
		return refused(wrong)
	}
	lay(list, at, behind(c.args, 1))
	return c.put(key, list, integer(list.Len()))
}

// pushIfThere does so unless the key is absent.
func (c call) pushIfThere(at end) api.Reply {
	if _, there := c.space.Due(c.args[0], c.now); !there {
		return integer(0)
	}
	return c.push(at)
}

func popFirst(c call) api.Reply { return c.pop(first) }

func popLast(c call) api.Reply { return c.pop(last) }

// pop takes away one element at an end of a list, or as many as a count behind the key says.
func (c call) pop(at end) api.Reply {
	key, more := c.args[0], behind(c.args, 1)
	if len(more) == 0 {
		return c.popOne(key, at)
	}
	if len(more) > 1 {
		return refused(api.TextSyntax)
	}
	n, wrong := countOf(more[0])
	if wrong != "" {
		return refused(wrong)
	}
	return c.popSeveral(key, at, n)
}

// popOne answers the element that it takes away.
func (c call) popOne(key string, at end) api.Reply {
	list, wrong := c.listAt(key)
	if wrong != "" {
		return refused(wrong)
	}
	if list.Len() == 0 {
		return null()
	}
	return c.put(key, list, bulk(take(list, at, 1)[0]))
}

// popSeveral answers an array of the elements that it takes away.
func (c call) popSeveral(key string, at end, n int) api.Reply {
	list, wrong := c.listAt(key)
	if wrong != "" {
		return refused(wrong)
	}
	if list.Len() == 0 {
		return noArray()
	}
	if n == 0 {
		return bulks(nil)
	}
	return c.put(key, list, bulks(take(list, at, n)))
}

func move(c call) api.Reply {
	from, wrong := endOf(c.args[2])
	if wrong != "" {
		return refused(wrong)
	}
	to, wrong := endOf(c.args[3])
	if wrong != "" {
		return refused(wrong)
	}
	return c.move(from, to)
}

// moveLastToFirst is a move whose ends are not said.
func moveLastToFirst(c call) api.Reply {
	c.args = append(part(c.args, 0, 2), "right", "left")
	return move(c)
}

// move takes an element away at an end of the first key's list and lays it at an end of the second one's.
func (c call) move(from, to end) api.Reply {
	key, target := c.args[0], c.args[1]
	source, wrong := c.listAt(key)
	if wrong != "" {
		return refused(wrong)
	}
	list, wrong := c.listAt(target)
	if wrong != "" {
		return refused(wrong)
	}
	if source.Len() == 0 {
		return null()
	}
	if key == target {
		list = source
	}
	moved := take(source, from, 1)
	lay(list, to, moved)
	answer := bulk(moved[0])
	if key != target {
		c.put(key, source, answer)
	}
	return c.put(target, list, answer)
}
