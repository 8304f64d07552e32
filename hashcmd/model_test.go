package hashcmd

import (
	"fmt"
	"math/big"
	"reflect"
	"regexp"
	"slices"
	"sort"
	"strings"
	"testing"

	"covenant/api"
	"covenant/glob"
	"covenant/resp"
	"covenant/space"
	"covenant/value"
)

// model is the keys by the chapter's words, and what was done to them.
type model struct {
	keys    map[string]api.Entry
	now     int
	changes []string
	touches uint64
}

// modelOf is the model of what a space holds.
func modelOf(s *space.Space) *model {
	m := &model{keys: map[string]api.Entry{}, touches: s.Counter()}
	for _, e := range s.Entries() {
		m.keys[e.Key] = e
	}
	return m
}

func (m *model) entries() []api.Entry {
	var l []api.Entry
	for _, e := range m.keys {
		l = append(l, e)
	}
	slices.SortFunc(l, func(a, b api.Entry) int { return strings.Compare(a.Key, b.Key) })
	return l
}

// seen is the entry of a key that is seen at now.
func (m *model) seen(key string) api.Entry {
	e := m.keys[key]
	if e.Due != 0 && e.Due <= m.now {
		return api.Entry{}
	}
	return e
}

// hash is the fields at a key, as a copy.
func (m *model) hash(key string) map[string]string {
	h := map[string]string{}
	for _, f := range m.seen(key).Value.Fields {
		h[f.Name] = f.Value
	}
	return h
}

// rising is the names of fields in their order.
func rising(h map[string]string) []string {
	var names []string
	for name := range h {
		names = append(names, name)
	}
	sort.Strings(names)
	return names
}

// wrong says whether the key holds another kind.
func (m *model) wrong(key string) bool {
	kind := m.seen(key).Value.Kind
	return kind != 0 && kind != 3
}

// layBack lays fields back, unless they are as they were or a text is too long; it says whether none is.
func (m *model) layBack(key string, h map[string]string) bool {
	if reflect.DeepEqual(h, m.hash(key)) {
		return true
	}
	var l []string
	for _, name := range rising(h) {
		if len(name) > 1048576 || len(h[name]) > 1048576 {
			return false
		}
		l = append(l, name, h[name])
	}
	m.touches++
	if len(h) == 0 {
		delete(m.keys, key)
		m.changes = append(m.changes, "drop "+key)
		return true
	}
	due := m.seen(key).Due
	v := aHash(l...)
	m.keys[key] = api.Entry{Key: key, Value: v, Due: due, Version: m.touches}
	m.changes = append(m.changes, fmt.Sprintf("put %s hash%s %d", key, plainFields(v.Fields), due))
	return true
}

func modelError(text string) api.Reply { return api.Reply{Kind: 2, Text: text} }

func modelInt(n int) api.Reply { return api.Reply{Kind: 3, N: n} }

func modelBulk(text string) api.Reply { return api.Reply{Kind: 4, Text: text} }

func modelNull() api.Reply { return api.Reply{Kind: 5} }

// after is a reply, if what it tells of could be put.
func after(put bool, r api.Reply) api.Reply {
	if !put {
		return modelError("ERR the value would be too long")
	}
	return r
}

var isNumber = regexp.MustCompile(`\A(0|-?[1-9][0-9]*)\z`)

// big64 is a number's text as a number, if it is one.
func big64(s string) (*big.Int, bool) {
	if !isNumber.MatchString(s) {
		return nil, false
	}
	n, _ := new(big.Int).SetString(s, 10)
	return n, n.IsInt64()
}

// arity is how many words each command takes, with its name: below 0 at least so many.
func arity() map[string]int {
	return map[string]int{
		"hdel": -3, "hexists": 3, "hget": 3, "hgetall": 2, "hincrby": 4, "hkeys": 2, "hlen": 2, "hmget": -3, "hmset": -4, "hscan": -3, "hset": -4, "hsetnx": 4, "hstrlen": 3, "hvals": 2,
	}
}

func (m *model) run(now int, args []string) (api.Reply, bool) {
	m.now, m.changes = now, nil
	if len(args) == 0 {
		return api.Reply{}, false
	}
	name := strings.ToLower(args[0])
	n, known := arity()[name]
	if !known || n > 0 && len(args) != n || n < 0 && len(args) < -n {
		return api.Reply{}, false
	}
	key, words := args[1], args[2:]
	switch name {
	case "hset", "hmset":
		return m.set(name, key, words), true
	case "hsetnx":
		return m.setNew(key, words[0], words[1]), true
	case "hdel":
		return m.drop(key, words), true
	case "hincrby":
		return m.increment(key, words[0], words[1]), true
	case "hscan":
		return m.scan(key, words[0], words[1:]), true
	}
	return m.read(name, key, words), true
}

func (m *model) set(name, key string, words []string) api.Reply {
	if len(words)%2 == 1 {
		return modelError("ERR wrong number of arguments: " + name)
	}
	if m.wrong(key) {
		return modelError(api.TextWrong)
	}
	h, was := m.hash(key), m.hash(key)
	for i := range words {
		if i%2 == 1 {
			h[words[i-1]] = words[i]
		}
	}
	r := modelInt(len(h) - len(was))
	if name == "hmset" {
		r = api.Reply{Kind: 1, Text: "OK"}
	}
	return after(m.layBack(key, h), r)
}

func (m *model) setNew(key, name, value string) api.Reply {
	if m.wrong(key) {
		return modelError(api.TextWrong)
	}
	h := m.hash(key)
	if _, there := h[name]; there {
		return modelInt(0)
	}
	h[name] = value
	return after(m.layBack(key, h), modelInt(1))
}

func (m *model) drop(key string, names []string) api.Reply {
	if m.wrong(key) {
		return modelError(api.TextWrong)
	}
	h := m.hash(key)
	was := len(h)
	for _, name := range names {
		delete(h, name)
	}
	m.layBack(key, h)
	return modelInt(was - len(h))
}

func (m *model) increment(key, name, word string) api.Reply {
	by, ok := big64(word)
	if !ok {
		return modelError("ERR a number is wanted")
	}
	if m.wrong(key) {
		return modelError(api.TextWrong)
	}
	h := m.hash(key)
	sum := new(big.Int).Set(by)
	if value, there := h[name]; there {
		n, ok := big64(value)
		if !ok {
			return modelError("ERR a number is wanted")
		}
		sum.Add(sum, n)
	}
	if !sum.IsInt64() {
		return modelError("ERR the number would leave its range")
	}
	h[name] = sum.String()
	return after(m.layBack(key, h), modelInt(int(sum.Int64())))
}

// modelValue is what a name has, or null.
func modelValue(h map[string]string, name string) api.Reply {
	if value, there := h[name]; there {
		return modelBulk(value)
	}
	return modelNull()
}

func (m *model) read(name, key string, words []string) api.Reply {
	if m.wrong(key) {
		return modelError(api.TextWrong)
	}
	h := m.hash(key)
	list := []api.Reply{}
	switch name {
	case "hget":
		return modelValue(h, words[0])
	case "hexists":
		return modelInt(map[bool]int{true: 1}[modelValue(h, words[0]).Kind == 4])
	case "hstrlen":
		return modelInt(len(modelValue(h, words[0]).Text))
	case "hlen":
		return modelInt(len(h))
	case "hmget":
		for _, word := range words {
			list = append(list, modelValue(h, word))
		}
	}
	for _, field := range rising(h) {
		if name == "hkeys" || name == "hgetall" {
			list = append(list, modelBulk(field))
		}
		if name == "hvals" || name == "hgetall" {
			list = append(list, modelBulk(h[field]))
		}
	}
	return api.Reply{Kind: 6, List: list}
}

// modelOptions is the pattern and the count that HSCAN's options say, or the first error.
func modelOptions(words []string) (string, *big.Int, string) {
	pattern, count := "*", big.NewInt(10)
	for i := 0; i < len(words); i += 2 {
		name := strings.ToUpper(words[i])
		if name != "MATCH" && name != "COUNT" || i+1 == len(words) {
			return "", nil, "ERR syntax"
		}
		if name == "MATCH" {
			pattern = words[i+1]
			continue
		}
		n, ok := big64(words[i+1])
		if !ok {
			return "", nil, "ERR a number is wanted"
		}
		if n.Sign() <= 0 {
			return "", nil, "ERR syntax"
		}
		count = n
	}
	return pattern, count, ""
}

func (m *model) scan(key, cursor string, words []string) api.Reply {
	if cursor != "0" && (cursor == "" || cursor[0] != '>') {
		return modelError("ERR the cursor may not be")
	}
	pattern, count, wrong := modelOptions(words)
	if wrong != "" {
		return modelError(wrong)
	}
	if m.wrong(key) {
		return modelError(api.TextWrong)
	}
	h := m.hash(key)
	var from []string
	for _, name := range rising(h) {
		if cursor == "0" || ">"+name > cursor {
			from = append(from, name)
		}
	}
	next := "0"
	if count.Cmp(big.NewInt(int64(len(from)))) < 0 {
		from = from[:count.Int64()]
		next = ">" + from[len(from)-1]
	}
	var told []api.Reply
	for _, name := range from {
		if glob.Match(pattern, name) {
			told = append(told, modelBulk(name), modelBulk(h[name]))
		}
	}
	return api.Reply{Kind: 6, List: []api.Reply{modelBulk(next), {Kind: 6, List: told}}}
}

// alike fails unless a request on a space is answered, and changes it, as the model says; it says whether that is so.
func alike(t *testing.T, s *space.Space, now int, args []string) bool {
	t.Helper()
	m := modelOf(s)
	was := s.Entries()
	want, known := m.run(now, args)
	r, ok, changes := done(s, now, args)
	if ok != known || !sameReply(r, want) || changes != strings.Join(m.changes, ", ") {
		t.Errorf("%q at %d on %.300s: %s, %v, changes: %s; not %s, changes: %q", args, now, fmt.Sprint(was), resp.Show(r), ok, changes, resp.Show(want), m.changes)
		return false
	}
	if s.Counter() != m.touches || !slices.EqualFunc(s.Entries(), m.entries(), sameEntry) {
		t.Errorf("%q at %d: %.300s became %.300s", args, now, fmt.Sprint(was), told(s))
		return false
	}
	return true
}

// sameReply holds replies against each other; a list of no length may be nil or not.
func sameReply(a, b api.Reply) bool {
	if !slices.EqualFunc(a.List, b.List, sameReply) {
		return false
	}
	a.List, b.List = nil, nil
	return reflect.DeepEqual(a, b)
}

func sameEntry(a, b api.Entry) bool {
	return a.Key == b.Key && a.Due == b.Due && a.Version == b.Version && value.Same(a.Value, b.Value)
}
