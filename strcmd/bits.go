package strcmd

import (
	"covenant/api"
	"covenant/blob"
	"covenant/table"
)

// lastBit is the last place of a bit, whatever a string's length.
const lastBit = 8*api.MaxText - 1

func getBit(c call) api.Reply {
	at, wrong := offset(c.args[1], lastBit)
	if wrong != "" {
		return refused(wrong)
	}
	was, wrong := c.stringAt(c.args[0])
	if wrong != "" {
		return refused(wrong)
	}
	bit, _ := blob.Bit(was.text, at)
	return count(bit)
}

func setBit(c call) api.Reply {
	key := c.args[0]
	at, wrong := offset(c.args[1], lastBit)
	if wrong != "" {
		return refused(wrong)
	}
	bit, wrong := bitOf(c.args[2])
	if wrong != "" {
		return refused(wrong)
	}
	was, wrong := c.stringAt(key)
	if wrong != "" {
		return refused(wrong)
	}
	text, stood, _ := blob.SetBit(was.text, at, bit)
	return c.change(key, text, count(stood))
}

func countBits(c call) api.Reply {
	if n := len(c.args); n != 1 && n != 3 {
		return refused(api.TextSyntax)
	}
	places, wrong := numbers(c.args[1:])
	if wrong != "" {
		return refused(wrong)
	}
	was, wrong := c.stringAt(c.args[0])
	if wrong != "" {
		return refused(wrong)
	}
	from, to := piece(places)
	return count(blob.Count(was.text, from, to))
}

func findBit(c call) api.Reply {
	if len(c.args) > 4 {
		return refused(api.TextSyntax)
	}
	bit, wrong := bitOf(c.args[1])
	if wrong != "" {
		return refused(wrong)
	}
	places, wrong := numbers(c.args[2:])
	if wrong != "" {
		return refused(wrong)
	}
	was, wrong := c.stringAt(c.args[0])
	if wrong != "" {
		return refused(wrong)
	}
	return count(firstBit(was.text, bit, places))
}

// firstBit gives the first place of a bit in a piece of a text. Without an end to the piece, bits 0 go on behind a text that is not empty.
func firstBit(text string, bit int, places []int) int {
	if text == "" && bit == 0 {
		return 0
	}
	from, to := piece(places)
	at, _ := blob.First(text, bit, from, to)
	// A place that counts from the end is below the length, as it stands.
	if at < 0 && bit == 0 && len(places) < 2 && from < len(text) {
		return 8 * len(text)
	}
	return at
}

// piece gives the first and the last byte that are asked for, of which the last one or both may be left out.
func piece(places []int) (int, int) {
	ends := [2]int{0, -1}
	copy(ends[:], places)
	return ends[0], ends[1]
}

// bitOf reads a word as a bit, or gives the text of an error.
func bitOf(word string) (int, string) {
	switch word {
	case "0":
		return 0, ""
	case "1":
		return 1, ""
	}
	return 0, api.TextBit
}

func joinBits(c call) api.Reply {
	op, target, keys := operation(c.args[0]), c.args[1], c.args[2:]
	if op == 0 || op == api.BitNot && len(keys) > 1 {
		return refused(api.TextSyntax)
	}
	var texts []string
	for _, key := range keys {
		was, wrong := c.stringAt(key)
		if wrong != "" {
			return refused(wrong)
		}
		texts = append(texts, was.text)
	}
	joined, _ := blob.Op(op, texts)
	if joined == "" {
		c.drop(target)
		return count(0)
	}
	return c.put(target, joined, 0, count(len(joined)))
}

// operation gives the operation on bits that a word means; 0, if it means none.
func operation(word string) int {
	switch table.Lower(word) {
	case "and":
		return api.BitAnd
	case "or":
		return api.BitOr
	case "xor":
		return api.BitXor
	case "not":
		return api.BitNot
	}
	return 0
}
