package strcmd

import (
	"covenant/api"
	"covenant/table"
)

// settings is what the options of a SET say. A word in small letters stands for what was said; none, if nothing was.
type settings struct {
	unless string // nx or xx
	old    bool   // get
	life   string // keepttl or a time's word
	due    int    // the tick of that time
}

// settingsOf reads the words behind the value of a SET, or gives the text of the first error.
func settingsOf(now int, words []string) (settings, string) {
	var o settings
	for len(words) > 0 {
		word := table.Lower(words[0])
		words = words[1:]
		k, isTime := clockOf(word)
		switch {
		case (word == "nx" || word == "xx") && o.unless == "":
			o.unless = word
		case word == "get" && !o.old:
			o.old = true
		case word == "keepttl" && o.life == "":
			o.life = word
		case isTime && o.life == "" && len(words) > 0:
			due, wrong := k.tick(now, words[0])
			if wrong != "" {
				return settings{}, wrong
			}
			o.life, o.due = word, due
			words = words[1:]
		default:
			return settings{}, api.TextSyntax
		}
	}
	return o, ""
}

// bars says whether a key that is there, or one that is not, is to stay as it is.
func (o settings) bars(there bool) bool {
	return o.unless == "nx" && there || o.unless == "xx" && !there
}

func set(c call) api.Reply {
	key, text := c.args[0], c.args[1]
	o, wrong := settingsOf(c.now, c.args[2:])
	if wrong != "" {
		return refused(wrong)
	}
	done, barred := ok(), null()
	if o.old {
		was, wrong := c.stringAt(key)
		if wrong != "" {
			return refused(wrong)
		}
		done, barred = was.bulk(), was.bulk()
	}
	if o.bars(c.isThere(key)) {
		return barred
	}
	if o.life == "keepttl" {
		return c.change(key, text, done)
	}
	return c.put(key, text, o.due, done)
}

func getAndSet(c call) api.Reply {
	key, text := c.args[0], c.args[1]
	was, wrong := c.stringAt(key)
	if wrong != "" {
		return refused(wrong)
	}
	return c.put(key, text, 0, was.bulk())
}

func getAndDrop(c call) api.Reply {
	key := c.args[0]
	was, wrong := c.stringAt(key)
	if wrong != "" {
		return refused(wrong)
	}
	c.drop(key)
	return was.bulk()
}

// lease is what the words behind the key of a GETEX say: whether the deadline changes, and to which; 0 for none.
type lease struct {
	changes bool
	due     int
}

// leaseOf reads the words behind the key of a GETEX, or gives the text of an error.
func leaseOf(now int, words []string) (lease, string) {
	switch len(words) {
	case 0:
		return lease{}, ""
	case 1:
		if table.Lower(words[0]) == "persist" {
			return lease{changes: true}, ""
		}
	case 2:
		if k, isTime := clockOf(table.Lower(words[0])); isTime {
			due, wrong := k.tick(now, words[1])
			if wrong != "" {
				return lease{}, wrong
			}
			return lease{changes: true, due: due}, ""
		}
	}
	return lease{}, api.TextSyntax
}

func getAndSetDue(c call) api.Reply {
	key := c.args[0]
	l, wrong := leaseOf(c.now, c.args[1:])
	if wrong != "" {
		return refused(wrong)
	}
	was, wrong := c.stringAt(key)
	if wrong != "" {
		return refused(wrong)
	}
	// A key without a deadline has none to lose: it is not touched.
	if was.there && l.changes && (l.due > 0 || c.dueOf(key) > 0) {
		c.space.SetDue(key, l.due)
	}
	return was.bulk()
}

func setNew(c call) api.Reply {
	key, text := c.args[0], c.args[1]
	if c.isThere(key) {
		return count(0)
	}
	return c.put(key, text, 0, count(1))
}

func setForSeconds(c call) api.Reply {
	return setFor(c, clock{fromNow: true, step: second})
}

func setForTicks(c call) api.Reply {
	return setFor(c, clock{fromNow: true, step: 1})
}

// setFor sets a string with the deadline that its number means on a clock.
func setFor(c call, k clock) api.Reply {
	key, text := c.args[0], c.args[2]
	due, wrong := k.tick(c.now, c.args[1])
	if wrong != "" {
		return refused(wrong)
	}
	return c.put(key, text, due, ok())
}
