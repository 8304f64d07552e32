package setcmd

import (
	"covenant/api"
	"covenant/members"
)

// several is the sets at several keys, in the order of the keys.
type several [][]string

func (sets several) inter() []string { return members.Inter(sets...) }

func (sets several) union() []string { return members.Union(sets...) }

func (sets several) diff() []string { return members.Diff(sets...) }

// join makes one set of several.
type join func(sets several) []string

// setsAt gives the sets at some keys, or the text of an error.
func (c call) setsAt(keys []string) (several, string) {
	var sets several
	for _, key := range keys {
		set, wrong := c.setAt(key)
		if wrong != "" {
			return nil, wrong
		}
		sets = append(sets, set)
	}
	return sets, ""
}

// tell gives the command that tells what the sets at its keys are joined to.
func tell(by join) command {
	return func(c call) api.Reply {
		sets, wrong := c.setsAt(c.args)
		if wrong != "" {
			return refused(wrong)
		}
		return bulks(by(sets))
	}
}

// store gives the command that puts what the sets at its other keys are joined to at its first one, whatever that holds, and tells how many elements it has.
func store(by join) command {
	return func(c call) api.Reply {
		sets, wrong := c.setsAt(c.args[1:])
		if wrong != "" {
			return refused(wrong)
		}
		set := by(sets)
		return c.put(c.args[0], set, 0, integer(len(set)))
	}
}
