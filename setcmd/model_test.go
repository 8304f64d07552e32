package setcmd

import (
	"fmt"
	"math/big"
	"reflect"
	"regexp"
	"slices"
	"strings"
	"testing"

	"covenant/api"
	"covenant/glob"
	"covenant/resp"
	"covenant/space"
	"covenant/value"
)

// model is the keys by the chapter's words, and what was done to them.
type model struct {
	keys    map[string]api.Entry
	now     int
	changes []string
	touches uint64
}

// modelOf is the model of what a space holds.
func modelOf(s *space.Space) *model {
	m := &model{keys: map[string]api.Entry{}, touches: s.Counter()}
	for _, e := range s.Entries() {
		m.keys[e.Key] = e
	}
	return m
}

func (m *model) entries() []api.Entry {
	var l []api.Entry
	for _, e := range m.keys {
		l = append(l, e)
	}
	slices.SortFunc(l, func(a, b api.Entry) int { return strings.Compare(a.Key, b.Key) })
	return l
}

// seen is the entry of a key that is seen at now.
func (m *model) seen(key string) api.Entry {
	e := m.keys[key]
	if e.Due != 0 && e.Due <= m.now {
		return api.Entry{}
	}
	return e
}

// set is the elements at a key, as a copy.
func (m *model) set(key string) map[string]bool {
	set := map[string]bool{}
	for _, element := range m.seen(key).Value.List {
		set[element] = true
	}
	return set
}

// rising is the elements of a set in their order.
func rising(set map[string]bool) []string {
	var l []string
	for element := range set {
		l = append(l, element)
	}
	slices.Sort(l)
	return l
}

// wrong says whether one of the keys holds another kind.
func (m *model) wrong(keys ...string) bool {
	for _, key := range keys {
		if kind := m.seen(key).Value.Kind; kind != 0 && kind != 4 {
			return true
		}
	}
	return false
}

// put puts a set, or drops a key that is there, and gives the reply, unless an element is too long.
func (m *model) put(key string, set map[string]bool, due int, r api.Reply) api.Reply {
	for element := range set {
		if len(element) > 1048576 {
			return modelError("ERR the value would be too long")
		}
	}
	if len(set) == 0 {
		if m.seen(key).Key == "" && m.seen(key).Version == 0 {
			return r
		}
		m.touches++
		delete(m.keys, key)
		m.changes = append(m.changes, "drop "+key)
		return r
	}
	m.touches++
	v := aSet(rising(set)...)
	m.keys[key] = api.Entry{Key: key, Value: v, Due: due, Version: m.touches}
	m.changes = append(m.changes, fmt.Sprintf("put %s set%v %d", key, v.List, due))
	return r
}

// keep puts a set with the deadline that the key has.
func (m *model) keep(key string, set map[string]bool, r api.Reply) api.Reply {
	return m.put(key, set, m.seen(key).Due, r)
}

func modelError(text string) api.Reply { return api.Reply{Kind: 2, Text: text} }

func modelInt(n int) api.Reply { return api.Reply{Kind: 3, N: n} }

func modelBulk(text string) api.Reply { return api.Reply{Kind: 4, Text: text} }

func modelBulks(l []string) api.Reply {
	r := api.Reply{Kind: 6}
	for _, text := range l {
		r.List = append(r.List, modelBulk(text))
	}
	return r
}

var isNumber = regexp.MustCompile(`\A(0|-?[1-9][0-9]*)\z`)

// big64 is a number's text as a number, if it is one.
func big64(s string) (*big.Int, bool) {
	if !isNumber.MatchString(s) {
		return nil, false
	}
	n, _ := new(big.Int).SetString(s, 10)
	return n, n.IsInt64()
}

// arity is how many words each command takes, with its name: below 0 at least so many.
func arity() map[string]int {
	return map[string]int{
		"sadd": -3, "scard": 2, "sdiff": -2, "sdiffstore": -3, "sinter": -2, "sinterstore": -3, "sismember": 3, "smembers": 2, "smismember": -3, "smove": 4, "spop": -2, "srem": -3, "sscan": -3, "sunion": -2, "sunionstore": -3,
	}
}

func (m *model) run(now int, args []string) (api.Reply, bool) {
	m.now, m.changes = now, nil
	if len(args) == 0 {
		return api.Reply{}, false
	}
	name := strings.ToLower(args[0])
	n, known := arity()[name]
	if !known || n > 0 && len(args) != n || n < 0 && len(args) < -n {
		return api.Reply{}, false
	}
	key, words := args[1], args[2:]
	switch name {
	case "sadd", "srem":
		return m.change(name == "sadd", key, words), true
	case "spop":
		return m.pop(key, words), true
	case "smove":
		return m.move(key, words[0], words[1]), true
	case "sscan":
		return m.scan(key, words[0], words[1:]), true
	case "sinterstore", "sunionstore", "sdiffstore":
		if m.wrong(words...) {
			return modelError(api.TextWrong), true
		}
		set := m.join(strings.TrimSuffix(name, "store"), words)
		return m.put(key, set, 0, modelInt(len(set))), true
	case "sinter", "sunion", "sdiff":
		if m.wrong(args[1:]...) {
			return modelError(api.TextWrong), true
		}
		return modelBulks(rising(m.join(name, args[1:]))), true
	}
	return m.read(name, key, words), true
}

func (m *model) change(adds bool, key string, words []string) api.Reply {
	if m.wrong(key) {
		return modelError(api.TextWrong)
	}
	set, n := m.set(key), 0
	for _, word := range words {
		if set[word] == adds {
			continue
		}
		n++
		if adds {
			set[word] = true
		} else {
			delete(set, word)
		}
	}
	if n == 0 {
		return modelInt(0)
	}
	return m.keep(key, set, modelInt(n))
}

func (m *model) pop(key string, words []string) api.Reply {
	if len(words) > 1 {
		return modelError("ERR syntax")
	}
	count := big.NewInt(1)
	if len(words) == 1 {
		n, ok := big64(words[0])
		if !ok || n.Sign() < 0 {
			return modelError("ERR a number is wanted")
		}
		count = n
	}
	if m.wrong(key) {
		return modelError(api.TextWrong)
	}
	set := m.set(key)
	var told []string
	for _, element := range rising(set) {
		if count.Sign() > 0 {
			told = append(told, element)
			delete(set, element)
			count.Sub(count, big.NewInt(1))
		}
	}
	r := modelBulks(told)
	if len(words) == 0 {
		r = api.Reply{Kind: 5}
		if len(told) == 1 {
			r = modelBulk(told[0])
		}
	}
	if len(told) == 0 {
		return r
	}
	return m.keep(key, set, r)
}

func (m *model) move(from, to, element string) api.Reply {
	if m.wrong(from, to) {
		return modelError(api.TextWrong)
	}
	source, target := m.set(from), m.set(to)
	if !source[element] {
		return modelInt(0)
	}
	if from != to {
		delete(source, element)
		m.keep(from, source, api.Reply{})
		if !target[element] {
			target[element] = true
			m.keep(to, target, api.Reply{})
		}
	}
	return modelInt(1)
}

// join is the elements by how many of the sets, and of which, they stand in.
func (m *model) join(name string, keys []string) map[string]bool {
	in := map[string]int{}
	for _, key := range keys {
		for element := range m.set(key) {
			in[element]++
		}
	}
	first := m.set(keys[0])
	rest := map[string]bool{}
	for _, key := range keys[1:] {
		for element := range m.set(key) {
			rest[element] = true
		}
	}
	set := map[string]bool{}
	for element, n := range in {
		if name == "sunion" || name == "sinter" && n == len(keys) || name == "sdiff" && first[element] && !rest[element] {
			set[element] = true
		}
	}
	return set
}

func (m *model) read(name, key string, words []string) api.Reply {
	if m.wrong(key) {
		return modelError(api.TextWrong)
	}
	set := m.set(key)
	var list []api.Reply
	for _, word := range words {
		list = append(list, modelInt(map[bool]int{true: 1}[set[word]]))
	}
	switch name {
	case "scard":
		return modelInt(len(set))
	case "sismember":
		return list[0]
	case "smismember":
		return api.Reply{Kind: 6, List: list}
	}
	return modelBulks(rising(set))
}

// modelOptions is the pattern and the count that SSCAN's options say, or the first error.
func modelOptions(words []string) (string, *big.Int, string) {
	pattern, count := "*", big.NewInt(10)
	said := map[string]int{}
	for i := 0; i < len(words); i += 2 {
		name := strings.ToUpper(words[i])
		said[name]++
		if name != "MATCH" && name != "COUNT" || said[name] == 2 || i+1 == len(words) {
			return "", nil, "ERR syntax"
		}
		if name == "MATCH" {
			pattern = words[i+1]
			continue
		}
		n, ok := big64(words[i+1])
		if !ok {
			return "", nil, "ERR a number is wanted"
		}
		if n.Sign() <= 0 {
			return "", nil, "ERR syntax"
		}
		count = n
	}
	return pattern, count, ""
}

func (m *model) scan(key, cursor string, words []string) api.Reply {
	if cursor != "0" && (cursor == "" || cursor[0] != '>') {
		return modelError("ERR the cursor may not be")
	}
	pattern, count, wrong := modelOptions(words)
	if wrong != "" {
		return modelError(wrong)
	}
	if m.wrong(key) {
		return modelError(api.TextWrong)
	}
	var from []string
	for _, element := range rising(m.set(key)) {
		if cursor == "0" || ">"+element > cursor {
			from = append(from, element)
		}
	}
	next := "0"
	if count.Cmp(big.NewInt(int64(len(from)))) < 0 {
		from = from[:count.Int64()]
		next = ">" + from[len(from)-1]
	}
	from = slices.DeleteFunc(from, func(element string) bool { return !glob.Match(pattern, element) })
	return api.Reply{Kind: 6, List: []api.Reply{modelBulk(next), modelBulks(from)}}
}

// alike fails unless a request on a space is answered, and changes it, as the model says; it says whether that is so.
func alike(t *testing.T, s *space.Space, now int, args []string) bool {
	t.Helper()
	m := modelOf(s)
	was := s.Entries()
	want, known := m.run(now, args)
	r, ok, changes := done(s, now, args)
	if ok != known || !sameReply(r, want) || changes != strings.Join(m.changes, ", ") {
		t.Errorf("%q at %d on %.300s: %s, %v, changes: %s; not %s, changes: %q", args, now, fmt.Sprint(was), resp.Show(r), ok, changes, resp.Show(want), m.changes)
		return false
	}
	if s.Counter() != m.touches || !slices.EqualFunc(s.Entries(), m.entries(), sameEntry) {
		t.Errorf("%q at %d: %.300s became %.300s", args, now, fmt.Sprint(was), told(s))
		return false
	}
	return true
}

// sameReply holds replies against each other; a list of no length may be nil or not.
func sameReply(a, b api.Reply) bool {
	if !slices.EqualFunc(a.List, b.List, sameReply) {
		return false
	}
	a.List, b.List = nil, nil
	return reflect.DeepEqual(a, b)
}

func sameEntry(a, b api.Entry) bool {
	return a.Key == b.Key && a.Due == b.Due && a.Version == b.Version && value.Same(a.Value, b.Value)
}
