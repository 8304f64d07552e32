package setcmd

import (
	"slices"

	"covenant/api"
)

func size(c call) api.Reply {
	return c.with(func(set []string) api.Reply {
		return integer(len(set))
	})
}

func elements(c call) api.Reply {
	return c.with(bulks)
}

func has(c call) api.Reply {
	return c.with(func(set []string) api.Reply {
		return isElement(set, c.args[1])
	})
}

func hasEach(c call) api.Reply {
	return c.with(func(set []string) api.Reply {
		var list []api.Reply
		for _, word := range c.args[1:] {
			list = append(list, isElement(set, word))
		}
		return array(list)
	})
}

// isElement gives 1, if a word stands in a set, else 0. It searches by halves, since SMISMEMBER may ask for many.
func isElement(set []string, word string) api.Reply {
	if _, there := slices.BinarySearch(set, word); !there {
		return integer(0)
	}
	return integer(1)
}
