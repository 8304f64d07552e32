package strcmd

import "covenant/api"

func setSeveral(c call) api.Reply {
	if len(c.args)%2 != 0 {
		return refused(api.TextArity + "mset")
	}
	return c.putAll(ok())
}

func setSeveralNew(c call) api.Reply {
	if len(c.args)%2 != 0 {
		return refused(api.TextArity + "msetnx")
	}
	for i := 0; i < len(c.args); i += 2 {
		if c.isThere(c.args[i]) {
			return count(0)
		}
	}
	return c.putAll(count(1))
}

// putAll puts each key's text afresh, all of them or none, and gives the answer, unless a text is too long.
func (c call) putAll(answer api.Reply) api.Reply {
	for i := 1; i < len(c.args); i += 2 {
		if len(c.args[i]) > api.MaxText {
			return refused(api.TextLong)
		}
	}
	for i := 0; i < len(c.args); i += 2 {
		c.put(c.args[i], c.args[i+1], 0, answer)
	}
	return answer
}
