package strcmd

import (
	"covenant/api"
	"covenant/blob"
)

func get(c call) api.Reply {
	was, wrong := c.stringAt(c.args[0])
	if wrong != "" {
		return refused(wrong)
	}
	return was.bulk()
}

func length(c call) api.Reply {
	was, wrong := c.stringAt(c.args[0])
	if wrong != "" {
		return refused(wrong)
	}
	return count(len(was.text))
}

func getRange(c call) api.Reply {
	places, wrong := numbers(c.args[1:])
	if wrong != "" {
		return refused(wrong)
	}
	was, wrong := c.stringAt(c.args[0])
	if wrong != "" {
		return refused(wrong)
	}
	return bulk(blob.Range(was.text, places[0], places[1]))
}

func getSeveral(c call) api.Reply {
	var all []api.Reply
	for _, key := range c.args {
		// A key of another kind comes back as an absent one.
		was, _ := c.stringAt(key)
		all = append(all, was.bulk())
	}
	return api.Reply{Kind: api.ReplyArray, List: all}
}
