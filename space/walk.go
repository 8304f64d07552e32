package space

import (
	"iter"
	"slices"

	"covenant/api"
	"covenant/value"
)

// Stale gives the first keys, at most so many, of those that are over, by deadlines, of one deadline by keys.
func (s *Space) Stale(now, most int) []string {
	if s == nil {
		return nil
	}
	return s.dues.Peek(now, most)
}

// Keys gives the keys that are seen, rising.
func (s *Space) Keys(now int) []string {
	return s.rising(seenAt(now))
}

// Len tells how many keys are seen.
func (s *Space) Len(now int) int {
	if s == nil {
		return 0
	}
	// What is over is seldom much, so that it is counted, not what is seen.
	return len(s.entries) - len(s.Stale(now, len(s.entries)))
}

// All goes over the keys that are seen now and their values, whatever is done to the space while it goes.
func (s *Space) All(now int) iter.Seq2[string, api.Value] {
	entries := s.sorted(seenAt(now))
	return func(yield func(string, api.Value) bool) {
		for _, e := range entries {
			if !yield(e.Key, value.Copy(e.Value)) {
				return
			}
		}
	}
}

// seenAt asks whether an entry is one of a key that is seen at now.
func seenAt(now int) func(api.Entry) bool {
	return func(e api.Entry) bool { return seen(e, now) }
}

// rising gathers the keys whose entries are wanted, and sorts them, since a map gives them in any order.
func (s *Space) rising(wanted func(api.Entry) bool) []string {
	var keys []string
	if s == nil {
		return keys
	}
	for key, e := range s.entries {
		if wanted(e) {
			keys = append(keys, key)
		}
	}
	slices.Sort(keys)
	return keys
}

// sorted gives the entries that are wanted, by rising keys. Their values are the space's own.
func (s *Space) sorted(wanted func(api.Entry) bool) []api.Entry {
	keys := s.rising(wanted)
	list := make([]api.Entry, len(keys))
	for i, key := range keys {
		list[i] = s.entries[key]
	}
	return list
}
