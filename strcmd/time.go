package strcmd

import "covenant/api"

// second is how many ticks one has.
const second = 1000

// clock is how a time counts: from now on or from tick 0, and in steps of how many ticks.
type clock struct {
	fromNow bool
	step    int
}

// clockOf gives the clock that a time's word in small letters stands for; false, if it is no such word.
func clockOf(word string) (clock, bool) {
	switch word {
	case "ex":
		return clock{fromNow: true, step: second}, true
	case "px":
		return clock{fromNow: true, step: 1}, true
	case "exat":
		return clock{step: second}, true
	case "pxat":
		return clock{step: 1}, true
	}
	return clock{}, false
}

// tick gives the tick at which it is a number's time, or the text of an error.
func (k clock) tick(now int, word string) (int, string) {
	n, wrong := number(word)
	if wrong != "" {
		return 0, wrong
	}
	start := 0
	if k.fromNow {
		start = min(max(now, 0), api.MaxTick)
	}
	// The bound is divided, since the number's product could leave an int.
	if n < 1 || n > (api.MaxTick-start)/k.step {
		return 0, api.TextDeadline
	}
	return start + n*k.step, ""
}
