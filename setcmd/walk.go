package setcmd

import (
	"strings"

	"covenant/api"
	"covenant/glob"
	"covenant/members"
	"covenant/table"
)

// A cursor is the start, or what stands ahead of the element behind which it goes on.
const (
	start  = "0"
	behind = ">"
)

// search is what the options of an SSCAN say: which elements are told, how many are looked at, and which options were said.
type search struct {
	pattern          string
	most             int
	matched, counted bool
}

// searchOf reads the words behind the cursor of an SSCAN, or gives the text of the first error.
func searchOf(words []string) (search, string) {
	said := search{pattern: "*", most: 10}
	for len(words) > 0 {
		if len(words) == 1 {
			// Whatever word it is, what must stand behind it is wanting.
			return search{}, api.TextSyntax
		}
		wrong := said.option(words[0], words[1])
		if wrong != "" {
			return search{}, wrong
		}
		words = words[2:]
	}
	return said, ""
}

// option takes in one option with the word behind it, or gives the text of an error.
func (said *search) option(name, word string) string {
	switch table.Lower(name) {
	case "match":
		return said.match(word)
	case "count":
		return said.count(word)
	}
	return api.TextSyntax
}

func (said *search) match(pattern string) string {
	if said.matched {
		return api.TextSyntax
	}
	said.pattern, said.matched = pattern, true
	return ""
}

func (said *search) count(word string) string {
	if said.counted {
		return api.TextSyntax
	}
	most, wrong := number(word)
	if wrong == "" && most < 1 {
		return api.TextSyntax
	}
	said.most, said.counted = most, true
	return wrong
}

func scan(c call) api.Reply {
	cursor := c.args[1]
	if cursor != start && !strings.HasPrefix(cursor, behind) {
		return refused(api.TextCursor)
	}
	said, wrong := searchOf(c.args[2:])
	if wrong != "" {
		return refused(wrong)
	}
	return c.with(func(set []string) api.Reply {
		return said.from(cursor, set)
	})
}

// from looks at the next elements from a cursor on, and tells the cursor behind them, and those of them that are wanted.
func (said search) from(cursor string, set []string) api.Reply {
	rest := set
	if last, goesOn := strings.CutPrefix(cursor, behind); goesOn {
		rest = members.After(set, last, len(set))
	}
	looked, next := rest, start
	if said.most < len(rest) {
		looked = rest[:said.most]
		next = behind + looked[said.most-1]
	}
	var told []string
	for _, element := range looked {
		if glob.Match(said.pattern, element) {
			told = append(told, element)
		}
	}
	return array([]api.Reply{bulk(next), bulks(told)})
}
