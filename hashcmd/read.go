package hashcmd

import (
	"covenant/api"
	"covenant/dict"
)

// valueOf gives the bulk of a name's value, or null.
func valueOf(fields *dict.Dict, name string) api.Reply {
	value, there := fields.Get(name)
	if !there {
		return null()
	}
	return bulk(value)
}

func get(c call) api.Reply {
	return c.read(func(fields *dict.Dict) api.Reply {
		return valueOf(fields, c.args[0])
	})
}

func getSeveral(c call) api.Reply {
	return c.read(func(fields *dict.Dict) api.Reply {
		var list []api.Reply
		for _, name := range c.args {
			list = append(list, valueOf(fields, name))
		}
		return array(list)
	})
}

func exists(c call) api.Reply {
	return c.read(func(fields *dict.Dict) api.Reply {
		if _, there := fields.Get(c.args[0]); !there {
			return integer(0)
		}
		return integer(1)
	})
}

func valueLength(c call) api.Reply {
	return c.read(func(fields *dict.Dict) api.Reply {
		value, _ := fields.Get(c.args[0])
		return integer(len(value))
	})
}

func length(c call) api.Reply {
	return c.read(func(fields *dict.Dict) api.Reply {
		return integer(fields.Len())
	})
}

func names(c call) api.Reply {
	return c.read(func(fields *dict.Dict) api.Reply {
		var list []api.Reply
		for name := range fields.All() {
			list = append(list, bulk(name))
		}
		return array(list)
	})
}

func values(c call) api.Reply {
	return c.read(func(fields *dict.Dict) api.Reply {
		var list []api.Reply
		for _, value := range fields.All() {
			list = append(list, bulk(value))
		}
		return array(list)
	})
}

func all(c call) api.Reply {
	return c.read(func(fields *dict.Dict) api.Reply {
		var list []api.Reply
		for name, value := range fields.All() {
			list = append(list, bulk(name), bulk(value))
		}
		return array(list)
	})
}
