package value

import (
	"cmp"
	"strings"

	"covenant/api"
	"covenant/members"
	"covenant/num"
)

// How many bytes a kind, a count or a length, and a score have.
const (
	kindWidth  = 1
	countWidth = 4
	scoreWidth = 8
)

// content is what a value holds, apart from its kind; each kind has a type of its own for it.
type content interface {
	// mayBe says whether it may be as it stands.
	mayBe() bool
	// weight tells how many bytes write writes.
	weight() int
	// write writes the bytes behind the kind, if it may be.
	write(out *strings.Builder)
}

type text string

type list []string

type hash []api.Field

type set []string

type ranking []api.Scored

// contentOf gives what a value of its kind holds; nil, if its kind is none of the five.
func contentOf(v api.Value) content {
	switch v.Kind {
	case api.KindText:
		return text(v.Text)
	case api.KindList:
		return list(v.List)
	case api.KindHash:
		return hash(v.Fields)
	case api.KindSet:
		return set(v.List)
	case api.KindRank:
		return ranking(v.Ranked)
	}
	return nil
}

func (t text) mayBe() bool {
	return len(t) <= api.MaxText
}

func (t text) weight() int {
	return countWidth + len(t)
}

func (t text) write(out *strings.Builder) {
	writeNumber(out, uint64(len(t)), countWidth)
	out.WriteString(string(t))
}

func (l list) mayBe() bool {
	for _, element := range l {
		if !text(element).mayBe() {
			return false
		}
	}
	return len(l) > 0
}

func (l list) weight() int {
	n := countWidth
	for _, element := range l {
		n += text(element).weight()
	}
	return n
}

func (l list) write(out *strings.Builder) {
	writeNumber(out, uint64(len(l)), countWidth)
	for _, element := range l {
		text(element).write(out)
	}
}

func (h hash) mayBe() bool {
	names := make([]string, len(h))
	for i, f := range h {
		if !text(f.Value).mayBe() {
			return false
		}
		names[i] = f.Name
	}
	return set(names).mayBe()
}

func (h hash) weight() int {
	n := countWidth
	for _, f := range h {
		n += text(f.Name).weight() + text(f.Value).weight()
	}
	return n
}

func (h hash) write(out *strings.Builder) {
	writeNumber(out, uint64(len(h)), countWidth)
	for _, f := range h {
		text(f.Name).write(out)
		text(f.Value).write(out)
	}
}

func (s set) mayBe() bool {
	return list(s).mayBe() && members.Valid(s)
}

func (s set) weight() int {
	return list(s).weight()
}

func (s set) write(out *strings.Builder) {
	list(s).write(out)
}

func (r ranking) mayBe() bool {
	names := make([]string, len(r))
	for i, e := range r {
		if !isScore(e.Score) || i > 0 && !inOrder(r[i-1], e) {
			return false
		}
		names[i] = e.Name
	}
	// The order does not tell whether a name stands twice, with unlike scores.
	return list(names).mayBe() && len(members.Of(names)) == len(names)
}

func (r ranking) weight() int {
	n := countWidth
	for _, e := range r {
		n += scoreWidth + text(e.Name).weight()
	}
	return n
}

func (r ranking) write(out *strings.Builder) {
	writeNumber(out, uint64(len(r)), countWidth)
	for _, e := range r {
		// A score below 0 wraps round to the one 2^64 above it.
		writeNumber(out, uint64(e.Score), scoreWidth)
		text(e.Name).write(out)
	}
}

func isScore(n int) bool {
	return -api.MaxScore <= n && n <= api.MaxScore
}

// inOrder says whether b may stand behind a.
func inOrder(a, b api.Scored) bool {
	return cmp.Or(cmp.Compare(a.Score, b.Score), cmp.Compare(a.Name, b.Name)) < 0
}

func writeNumber(out *strings.Builder, n uint64, width int) {
	// No count is too great for its width: a list so long would not fit into the bound on all that is given.
	s, _ := num.Fix(n, width)
	out.WriteString(s)
}
