package space

import (
	"maps"
	"slices"

	"covenant/api"
	"covenant/value"
)

// mark is what is kept since it was set, so that all can be taken back and told.
type mark struct {
	counter uint64               // the counter's number at the mark
	ahead   map[string]api.Entry // of each key that was touched since, what stood there; the zero entry, if nothing did
	changes []api.Effect
}

// hold keeps what stood at a key, if this is its first touch since the mark: later ones meet what was changed already.
func (m *mark) hold(key string, e api.Entry) {
	if _, held := m.ahead[key]; !held {
		m.ahead[key] = e
	}
}

// Mark sets a mark, up to which Back takes all back.
func (s *Space) Mark() api.Errno {
	if s == nil {
		return api.ErrArg
	}
	if s.mark != nil {
		return api.ErrMark
	}
	s.mark = &mark{counter: s.counter, ahead: map[string]api.Entry{}}
	return api.OK
}

// Back makes all as it was at the mark, and takes the mark away.
func (s *Space) Back() api.Errno {
	if e := s.needsMark(); e != api.OK {
		return e
	}
	for key, e := range s.mark.ahead {
		s.set(key, e)
	}
	s.counter = s.mark.counter
	s.mark = nil
	return api.OK
}

// Keep leaves all as it is, and takes the mark away.
func (s *Space) Keep() api.Errno {
	if e := s.needsMark(); e != api.OK {
		return e
	}
	s.mark = nil
	return api.OK
}

// needsMark gives the error of a call that asks for a mark.
func (s *Space) needsMark() api.Errno {
	if s == nil {
		return api.ErrArg
	}
	if s.mark == nil {
		return api.ErrMark
	}
	return api.OK
}

// Changes gives the changes since the mark, in their order.
func (s *Space) Changes() []api.Effect {
	if s.needsMark() != api.OK {
		return nil
	}
	list := slices.Clone(s.mark.changes)
	for i := range list {
		list[i].Value = value.Copy(list[i].Value)
	}
	return list
}

// Touched gives the keys that were touched since the mark, rising.
func (s *Space) Touched() []string {
	if s.needsMark() != api.OK {
		return nil
	}
	return slices.Sorted(maps.Keys(s.mark.ahead))
}
