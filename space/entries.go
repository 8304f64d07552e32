package space

import (
	"strings"

	"covenant/api"
	"covenant/num"
	"covenant/value"
)

// maxVersion is the greatest version that Load takes.
const maxVersion = 1 << 62

// numberWidth is how many bytes a key's length and a deadline have.
const numberWidth = 8

// Entries gives all keys that are there, seen or not, with what they hold, by rising keys.
func (s *Space) Entries() []api.Entry {
	list := s.sorted(there)
	for i := range list {
		list[i].Value = value.Copy(list[i].Value)
	}
	return list
}

// Load makes the entries of a space just those of l.
func (s *Space) Load(l []api.Entry) api.Errno {
	if s == nil {
		return api.ErrArg
	}
	if s.mark != nil {
		return api.ErrMark
	}
	if !mayBe(l) {
		return api.ErrEntry
	}
	s.empty()
	s.counter = 0
	for _, e := range l {
		e.Value = value.Copy(e.Value)
		s.set(e.Key, e)
		s.counter = max(s.counter, e.Version)
	}
	return api.OK
}

// mayBe says whether a space can have these entries, in this order.
func mayBe(l []api.Entry) bool {
	for i, e := range l {
		if i > 0 && l[i-1].Key >= e.Key {
			return false
		}
		if value.Check(e.Value) != api.OK || !isDeadline(e.Due) {
			return false
		}
		if !there(e) || e.Version > maxVersion {
			return false
		}
	}
	return true
}

// Bytes gives all keys that are there, with their deadlines and values, as one text.
func (s *Space) Bytes() string {
	var out strings.Builder
	for _, e := range s.sorted(there) {
		writeNumber(&out, len(e.Key))
		out.WriteString(e.Key)
		writeNumber(&out, e.Due)
		// No value stands here that Check did not let.
		bytes, _ := value.Encode(e.Value)
		out.WriteString(bytes)
	}
	return out.String()
}

func writeNumber(out *strings.Builder, n int) {
	// Every number fits into the full width.
	bytes, _ := num.Fix(uint64(n), numberWidth)
	out.WriteString(bytes)
}
