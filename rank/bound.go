package rank

import (
	"cmp"

	"covenant/api"
	"covenant/num"
)

// end says which end of an interval a bound is.
type end int

const (
	lower end = iota
	upper
	ends
)

// interval is the bounds by their ends.
type interval [ends]api.Bound

// scoreFits says whether the bound at one end lets an entry by its score.
func (i interval) scoreFits(at end, e api.Scored) bool {
	return at.lets(i[at], cmp.Compare(e.Score, i[at].Score))
}

// nameFits says whether the bound at one end lets an entry by its name.
func (i interval) nameFits(at end, e api.Scored) bool {
	return at.lets(i[at], cmp.Compare(e.Name, i[at].Name))
}

// lets says whether b, as this end, lets what stands so to the place that it names: below 0 ahead of it, 0 at it, above 0 behind it.
func (at end) lets(b api.Bound, stands int) bool {
	switch {
	case b.Inf < 0:
		return at == lower
	case b.Inf > 0:
		return at == upper
	case stands == 0:
		return !b.Open
	}
	return (stands > 0) == (at == lower)
}

// ParseScore reads an end of an interval of scores.
func ParseScore(s string) (api.Bound, api.Errno) {
	switch s {
	case "-inf":
		return api.Bound{Inf: -1}, api.OK
	case "+inf", "inf":
		return api.Bound{Inf: 1}, api.OK
	case "":
		return api.Bound{}, api.ErrBound
	}
	open := s[0] == '('
	if open {
		s = s[1:]
	}
	score, e := num.Parse(s)
	if e != api.OK || !isScore(score) {
		return api.Bound{}, api.ErrBound
	}
	return api.Bound{Open: open, Score: score}, api.OK
}

// ParseName reads an end of an interval of names.
func ParseName(s string) (api.Bound, api.Errno) {
	switch {
	case s == "-":
		return api.Bound{Inf: -1}, api.OK
	case s == "+":
		return api.Bound{Inf: 1}, api.OK
	case s != "" && s[0] == '[':
		return api.Bound{Name: s[1:]}, api.OK
	case s != "" && s[0] == '(':
		return api.Bound{Open: true, Name: s[1:]}, api.OK
	}
	return api.Bound{}, api.ErrBound
}
