package keycmd

import (
	"covenant/api"
	"covenant/table"
)

// flags is options that are words of their own, as many as stand there.
type flags int

const (
	flagNX flags = 1 << iota
	flagXX
	flagGT
	flagLT
	flagReplace
	flagAbsTTL
)

// flagOf gives the flag of a word in small letters; none, if it is no such word.
func flagOf(word string) flags {
	switch word {
	case "nx":
		return flagNX
	case "xx":
		return flagXX
	case "gt":
		return flagGT
	case "lt":
		return flagLT
	case "replace":
		return flagReplace
	case "absttl":
		return flagAbsTTL
	}
	return 0
}

// any says whether one of some flags stands there.
func (f flags) any(some flags) bool {
	return f&some != 0
}

// clash says whether two of the flags may not stand together.
func (f flags) clash() bool {
	return f.any(flagNX) && f.any(flagXX|flagGT|flagLT) || f.any(flagGT) && f.any(flagLT)
}

// flagsOf reads words as flags, each one of those that may stand there, or gives the text of an error.
func flagsOf(words []string, may flags) (flags, string) {
	var said flags
next:
	if len(words) == 0 {
		return said, ""
	}
	one := flagOf(table.Lower(words[0]))
	said |= one
	if !may.any(one) || said.clash() {
		return 0, api.TextSyntax
	}
	words = words[1:]
	goto next
}

// search is what the options of a SCAN say: which keys are told, and how many are looked at.
type search struct {
	pattern string
	most    int
}

// searchOf reads the words behind the cursor of a SCAN, or gives the text of the first error.
func searchOf(words []string) (search, string) {
	said := search{pattern: "*", most: 10}
next:
	if len(words) == 0 {
		return said, ""
	}
	if len(words) == 1 {
		// Whatever word it is, what must stand behind it is wanting.
		return search{}, api.TextSyntax
	}
	switch table.Lower(words[0]) {
	case "match":
		said.pattern = words[1]
	case "count":
		most, wrong := number(words[1])
		if wrong != "" {
			return search{}, wrong
		}
		if most < 1 {
			return search{}, api.TextSyntax
		}
		said.most = most
	default:
		return search{}, api.TextSyntax
	}
	words = words[2:]
	goto next
}
