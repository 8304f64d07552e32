package listcmd

import (
	"covenant/api"
	"covenant/table"
)

func set(c call) api.Reply {
	key, text := c.args[0], c.args[2]
	i, wrong := number(c.args[1])
	if wrong != "" {
		return refused(wrong)
	}
	list, wrong := c.listAt(key)
	if wrong != "" {
		return refused(wrong)
	}
	if list.Len() == 0 {
		return refused(api.TextNoKey)
	}
	if !list.Put(i, text) {
		return refused(api.TextIndex)
	}
	return c.put(key, list, ok())
}

func remove(c call) api.Reply {
	key, text := c.args[0], c.args[2]
	most, wrong := number(c.args[1])
	if wrong != "" {
		return refused(wrong)
	}
	list, wrong := c.listAt(key)
	if wrong != "" {
		return refused(wrong)
	}
	gone := list.Remove(most, text)
	if gone == 0 {
		return integer(0)
	}
	return c.put(key, list, integer(gone))
}

func trim(c call) api.Reply {
	key := c.args[0]
	from, to, wrong := twoNumbers(behind(c.args, 1))
	if wrong != "" {
		return refused(wrong)
	}
	list, wrong := c.listAt(key)
	if wrong != "" {
		return refused(wrong)
	}
	was := list.Len()
	list.Trim(from, to)
	if list.Len() == was {
		return ok()
	}
	return c.put(key, list, ok())
}

// sideOf reads a word as a side of an element, whether it is ahead of it, or gives the text of an error.
func sideOf(word string) (bool, string) {
	switch table.Lower(word) {
	case "before":
		return true, ""
	case "after":
		return false, ""
	}
	return false, api.TextSyntax
}

func insert(c call) api.Reply {
	key, pivot, text := c.args[0], c.args[2], c.args[3]
	before, wrong := sideOf(c.args[1])
	if wrong != "" {
		return refused(wrong)
	}
	list, wrong := c.listAt(key)
	if wrong != "" {
		return refused(wrong)
	}
	if list.Len() == 0 {
		return integer(0)
	}
	n := list.Insert(before, pivot, text)
	if n < 0 {
		return integer(n)
	}
	return c.put(key, list, integer(n))
}
