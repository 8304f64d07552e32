package hashcmd

import (
	"strings"

	"covenant/api"
	"covenant/dict"
	"covenant/glob"
	"covenant/table"
)

// A cursor is the start, or what stands ahead of the name behind which it goes on.
const (
	start  = "0"
	behind = ">"
)

// passed says whether a cursor goes on behind a name already.
func passed(cursor, name string) bool {
	last, isName := strings.CutPrefix(cursor, behind)
	return isName && name <= last
}

// search is what the options of an HSCAN say: which names are told, and how many are looked at.
type search struct {
	pattern string
	most    int
}

// searchOf reads the words behind the cursor of an HSCAN, or gives the text of the first error.
func searchOf(words []string) (search, string) {
	said := search{pattern: "*", most: 10}
	for len(words) > 0 {
		if len(words) == 1 {
			// Whatever word it is, what must stand behind it is wanting.
			return search{}, api.TextSyntax
		}
		wrong := said.option(words[0], words[1])
		if wrong != "" {
			return search{}, wrong
		}
		words = words[2:]
	}
	return said, ""
}

// option takes in one option with the word behind it, or gives the text of an error.
func (said *search) option(name, word string) string {
	switch table.Lower(name) {
	case "match":
		said.pattern = word
		return ""
	case "count":
		most, wrong := number(word)
		if wrong == "" && most < 1 {
			return api.TextSyntax
		}
		said.most = most
		return wrong
	}
	return api.TextSyntax
}

func scan(c call) api.Reply {
	cursor := c.args[0]
	if cursor != start && !strings.HasPrefix(cursor, behind) {
		return refused(api.TextCursor)
	}
	said, wrong := searchOf(c.args[1:])
	if wrong != "" {
		return refused(wrong)
	}
	return c.read(func(fields *dict.Dict) api.Reply {
		return said.from(cursor, fields)
	})
}

// from looks at the next fields from a cursor on, and tells the cursor behind them, and those of them that are wanted.
func (said search) from(cursor string, fields *dict.Dict) api.Reply {
	var told []api.Reply
	looked, last, next := 0, "", start
	for name, value := range fields.All() {
		if passed(cursor, name) {
			continue
		}
		if looked == said.most {
			next = behind + last
			break
		}
		looked, last = looked+1, name
		if glob.Match(said.pattern, name) {
			told = append(told, bulk(name), bulk(value))
		}
	}
	return array([]api.Reply{bulk(next), array(told)})
}
