package effect

import (
	"strings"

	"covenant/api"
	"covenant/num"
	"covenant/value"
)

// How many bytes a kind has, and a key's length or a deadline.
const (
	kindWidth   = 1
	numberWidth = 8
)

// write writes the bytes of an effect that may be.
func write(out *strings.Builder, e api.Effect) {
	out.WriteByte(byte(e.Kind))
	p, _ := partsOf(e.Kind)
	if p.key {
		writeNumber(out, len(e.Key))
		out.WriteString(e.Key)
	}
	if p.due {
		writeNumber(out, e.Due)
	}
	if p.value {
		// A value of an effect that may be is not refused.
		bytes, _ := value.Encode(e.Value)
		out.WriteString(bytes)
	}
}

func writeNumber(out *strings.Builder, n int) {
	// Every number fits into the full width.
	bytes, _ := num.Fix(uint64(n), numberWidth)
	out.WriteString(bytes)
}

// reader goes along the bytes of effects. Once they are none of an effect it has failed, and what it gives from then on means nothing.
type reader struct {
	rest   string
	failed bool
}

// effect reads an effect; whether it may be is not asked here.
func (r *reader) effect() api.Effect {
	e := api.Effect{Kind: int(r.number(kindWidth))}
	p, _ := partsOf(e.Kind)
	if p.key {
		e.Key = r.key()
	}
	if p.due {
		// A number of 2^63 or more wraps round to one below 0, which is no deadline either.
		e.Due = int(r.number(numberWidth))
	}
	if p.value {
		e.Value = r.value()
	}
	return e
}

func (r *reader) key() string {
	n := r.number(numberWidth)
	// A copy, since a piece of the bytes would hold on to the memory of all of them, and they may be a whole log.
	return strings.Clone(r.take(n))
}

func (r *reader) value() api.Value {
	v, n, e := value.Decode(r.rest)
	if e != api.OK {
		r.failed = true
	}
	r.take(uint64(n))
	return v
}

func (r *reader) number(width uint64) uint64 {
	// Of bytes that are too few Unfix gives 0, beside an error that take has noted already.
	n, _ := num.Unfix(r.take(width))
	return n
}

// take gives the next n bytes.
func (r *reader) take(n uint64) string {
	if r.failed || n > uint64(len(r.rest)) {
		r.failed = true
		return ""
	}
	taken := r.rest[:n]
	r.rest = r.rest[n:]
	return taken
}
