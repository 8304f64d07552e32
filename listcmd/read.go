package listcmd

import (
	"covenant/api"
	"covenant/table"
)

func length(c call) api.Reply {
	list, wrong := c.listAt(c.args[0])
	if wrong != "" {
		return refused(wrong)
	}
	return integer(list.Len())
}

func piece(c call) api.Reply {
	from, to, wrong := twoNumbers(behind(c.args, 1))
	if wrong != "" {
		return refused(wrong)
	}
	list, wrong := c.listAt(c.args[0])
	if wrong != "" {
		return refused(wrong)
	}
	return bulks(list.Slice(from, to))
}

func element(c call) api.Reply {
	i, wrong := number(c.args[1])
	if wrong != "" {
		return refused(wrong)
	}
	list, wrong := c.listAt(c.args[0])
	if wrong != "" {
		return refused(wrong)
	}
	text, there := list.At(i)
	if !there {
		return null()
	}
	return bulk(text)
}

// search is what the options of an LPOS say: which of the elements that are met is told first, how many are told (0: all), how many places are looked at (0: all), and whether all that are told stand in an array.
type search struct {
	rank, count, most int
	several           bool
}

// optionOf reads an option's number, or gives the text of an error.
func optionOf(name, word string) (int, string) {
	switch name {
	case "rank":
		n, wrong := number(word)
		if n == 0 {
			return 0, api.TextNumber
		}
		return n, wrong
	case "count", "maxlen":
		return countOf(word)
	}
	return 0, api.TextSyntax
}

// optionsOf reads words as options, each with a number behind it, or gives the text of the first error.
func optionsOf(words []string) (map[string]int, string) {
	said := map[string]int{}
	for len(words) > 0 {
		name := table.Lower(words[0])
		_, twice := said[name]
		if twice || len(words) == 1 {
			return nil, api.TextSyntax
		}
		n, wrong := optionOf(name, words[1])
		if wrong != "" {
			return nil, wrong
		}
		said[name] = n
		words = behind(words, 2)
	}
	return said, ""
}

// searchOf reads the words behind the element of an LPOS, or gives the text of the first error.
func searchOf(words []string) (search, string) {
	said, wrong := optionsOf(words)
	if wrong != "" {
		return search{}, wrong
	}
	s := search{rank: 1, count: 1, most: said["maxlen"]}
	if rank, is := said["rank"]; is {
		s.rank = rank
	}
	if count, is := said["count"]; is {
		s.count, s.several = count, true
	}
	return s, ""
}

func places(c call) api.Reply {
	s, wrong := searchOf(behind(c.args, 2))
	if wrong != "" {
		return refused(wrong)
	}
	list, wrong := c.listAt(c.args[0])
	if wrong != "" {
		return refused(wrong)
	}
	var found []api.Reply
	for _, at := range list.Find(c.args[1], s.rank, s.count, s.most) {
		found = append(found, integer(at))
	}
	switch {
	case s.several:
		return array(found)
	case len(found) == 0:
		return null()
	}
	return found[0]
}
