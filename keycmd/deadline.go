package keycmd

import "covenant/api"

// second is how many ticks one has.
const second = 1000

// What is told of the deadline of a key that has none, and of one that is not there.
const (
	noDeadline = -1
	noKey      = -2
)

// clock is how a number tells a deadline: from which tick on, and in steps of how many.
type clock struct {
	start, step int
}

// deadline reads a word as the number of a deadline, or gives the text of an error.
func (k clock) deadline(word string) (int, string) {
	n, wrong := number(word)
	if wrong != "" {
		return 0, wrong
	}
	// The bound is divided, since the number's product could leave an int.
	if n > (api.MaxTick-k.start)/k.step {
		return 0, api.TextDeadline
	}
	// One deadline below all ticks is as good as another, and the product of a lesser number could leave an int.
	return k.start + max(n, -api.MaxTick)*k.step, ""
}

func expireInSeconds(c call) api.Reply {
	return c.expire(clock{start: c.now, step: second})
}

func expireInTicks(c call) api.Reply {
	return c.expire(clock{start: c.now, step: 1})
}

func expireAtSecond(c call) api.Reply {
	return c.expire(clock{step: second})
}

func expireAtTick(c call) api.Reply {
	return c.expire(clock{step: 1})
}

// expire gives a key the deadline that its number means on a clock, and drops the key, if that has come already.
func (c call) expire(k clock) api.Reply {
	key := c.args[0]
	due, wrong := k.deadline(c.args[1])
	if wrong != "" {
		return refused(wrong)
	}
	said, wrong := flagsOf(c.args[2:], flagNX|flagXX|flagGT|flagLT)
	if wrong != "" {
		return refused(wrong)
	}
	was, there := c.space.Due(key, c.now)
	if !there || said.bar(was, due) {
		return count(0)
	}
	if due > c.now {
		c.space.SetDue(key, due)
	} else {
		c.space.Drop(key)
	}
	return count(1)
}

// bar says whether a key with a deadline (0: with none) is to stay as it is, rather than be given another one.
func (f flags) bar(was, due int) bool {
	has := was > 0
	return f.any(flagNX) && has ||
		f.any(flagXX|flagGT) && !has ||
		f.any(flagGT) && due <= was ||
		f.any(flagLT) && has && due >= was
}

func persist(c call) api.Reply {
	key := c.args[0]
	if due, _ := c.space.Due(key, c.now); due == 0 {
		return count(0)
	}
	c.space.SetDue(key, 0)
	return count(1)
}

func leftInSeconds(c call) api.Reply {
	return c.due(clock{start: c.now, step: second})
}

func leftInTicks(c call) api.Reply {
	return c.due(clock{start: c.now, step: 1})
}

func dueInSeconds(c call) api.Reply {
	return c.due(clock{step: second})
}

func dueInTicks(c call) api.Reply {
	return c.due(clock{step: 1})
}

// due tells the deadline of a key on a clock, rounded up to a whole step.
func (c call) due(k clock) api.Reply {
	due, there := c.space.Due(c.args[0], c.now)
	if !there {
		return count(noKey)
	}
	if due == 0 {
		return count(noDeadline)
	}
	return count((due - k.start + k.step - 1) / k.step)
}
