package value

import (
	"strings"

	"covenant/api"
	"covenant/num"
)

// reader goes along the bytes of a value. Once they are none of a value it has failed, and what it gives from then on means nothing.
type reader struct {
	rest   string
	failed bool
}

// value reads a value; whether it may be is not asked here.
func (r *reader) value() api.Value {
	v := api.Value{Kind: int(r.number(kindWidth))}
	switch v.Kind {
	case api.KindText:
		v.Text = r.text()
	case api.KindList, api.KindSet:
		v.List = elements(r, countWidth, r.text)
	case api.KindHash:
		v.Fields = elements(r, 2*countWidth, r.field)
	case api.KindRank:
		v.Ranked = elements(r, scoreWidth+countWidth, r.scored)
	default:
		r.failed = true
	}
	return v
}

// elements reads a count and so many elements, of which each has so many bytes at least.
func elements[T any](r *reader, least int, read func() T) []T {
	n := r.number(countWidth)
	// No room is made for more elements than the bytes can hold, whatever count they begin with.
	if n > uint64(len(r.rest)/least) {
		r.failed = true
		return nil
	}
	out := make([]T, 0, n)
	for range n {
		out = append(out, read())
		if r.failed {
			return nil
		}
	}
	return out
}

func (r *reader) field() api.Field {
	name := r.text()
	return api.Field{Name: name, Value: r.text()}
}

func (r *reader) scored() api.Scored {
	// A number of 2^63 or more wraps round to the score below 0 that it stands for.
	score := int(r.number(scoreWidth))
	return api.Scored{Name: r.text(), Score: score}
}

func (r *reader) text() string {
	n := r.number(countWidth)
	// A copy, since a piece of the bytes would hold on to the memory of all of them, and they may be a whole log.
	return strings.Clone(r.take(int(n)))
}

func (r *reader) number(width int) uint64 {
	// Of bytes that are too few Unfix gives 0, beside an error that take has noted already.
	n, _ := num.Unfix(r.take(width))
	return n
}

// take gives the next n bytes.
func (r *reader) take(n int) string {
	if r.failed || n > len(r.rest) {
		r.failed = true
		return ""
	}
	taken := r.rest[:n]
	r.rest = r.rest[n:]
	return taken
}
