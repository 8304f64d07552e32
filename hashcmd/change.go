package hashcmd

import (
	"covenant/api"
	"covenant/dict"
)

// pairs says whether each of some words has another one behind it.
func pairs(words []string) bool {
	return len(words)%2 == 0
}

// lay gives names their values, from the left, and tells how many of them are new.
func lay(fields *dict.Dict, pairs []string) int {
	fresh := 0
	for i := 0; i < len(pairs); i += 2 {
		if fields.Set(pairs[i], pairs[i+1]) {
			fresh++
		}
	}
	return fresh
}

func set(c call) api.Reply {
	if !pairs(c.args) {
		return refused(api.TextArity + "hset")
	}
	return c.change(func(fields *dict.Dict) api.Reply {
		return integer(lay(fields, c.args))
	})
}

func setSeveral(c call) api.Reply {
	if !pairs(c.args) {
		return refused(api.TextArity + "hmset")
	}
	return c.change(func(fields *dict.Dict) api.Reply {
		lay(fields, c.args)
		return ok()
	})
}

func setNew(c call) api.Reply {
	return c.change(func(fields *dict.Dict) api.Reply {
		if _, there := fields.Get(c.args[0]); there {
			return integer(0)
		}
		return integer(lay(fields, c.args))
	})
}

func drop(c call) api.Reply {
	return c.change(func(fields *dict.Dict) api.Reply {
		gone := 0
		for _, name := range c.args {
			if fields.Drop(name) {
				gone++
			}
		}
		return integer(gone)
	})
}

func increment(c call) api.Reply {
	by, wrong := number(c.args[1])
	if wrong != "" {
		return refused(wrong)
	}
	return c.change(func(fields *dict.Dict) api.Reply {
		sum, e := fields.Incr(c.args[0], by)
		switch e {
		case api.ErrNumber:
			return refused(api.TextNumber)
		case api.ErrOver:
			return refused(api.TextOverflow)
		}
		return integer(sum)
	})
}
