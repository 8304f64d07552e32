package keycmd

import (
	"slices"
	"strings"

	"covenant/api"
	"covenant/glob"
)

// A cursor is the start, or what stands ahead of the name behind which it goes on.
const (
	start  = "0"
	behind = ">"
)

func keys(c call) api.Reply {
	return matching(c.space.Keys(c.now), c.args[0])
}

func scan(c call) api.Reply {
	cursor := c.args[0]
	if cursor != start && !strings.HasPrefix(cursor, behind) {
		return refused(api.TextCursor)
	}
	said, wrong := searchOf(c.args[1:])
	if wrong != "" {
		return refused(wrong)
	}
	looked, next := c.keysFrom(cursor), start
	if said.most < len(looked) {
		looked = looked[:said.most]
		next = behind + looked[said.most-1]
	}
	return array([]api.Reply{bulk(next), matching(looked, said.pattern)})
}

// keysFrom gives the keys that are there from a cursor on, rising.
func (c call) keysFrom(cursor string) []string {
	all := c.space.Keys(c.now)
	name, isName := strings.CutPrefix(cursor, behind)
	if !isName {
		return all
	}
	at, found := slices.BinarySearch(all, name)
	if found {
		at++
	}
	return all[at:]
}

// matching gives an array of those keys that a pattern takes.
func matching(keys []string, pattern string) api.Reply {
	var taken []api.Reply
	for _, key := range keys {
		if glob.Match(pattern, key) {
			taken = append(taken, bulk(key))
		}
	}
	return array(taken)
}
