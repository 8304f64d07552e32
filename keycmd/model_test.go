package keycmd

import (
	"fmt"
	"math/big"
	"reflect"
	"regexp"
	"slices"
	"strings"
	"testing"

	"covenant/api"
	"covenant/glob"
	"covenant/resp"
	"covenant/space"
	"covenant/value"
)

// model is the keys by the chapter's words, and what was done to them.
type model struct {
	keys    map[string]api.Entry
	now     int64 // N
	changes []string
	touches uint64
}

// modelOf is the model of what a space holds.
func modelOf(s *space.Space) *model {
	m := &model{keys: map[string]api.Entry{}, touches: s.Counter()}
	for _, e := range s.Entries() {
		m.keys[e.Key] = e
	}
	return m
}

func (m *model) entries() []api.Entry {
	var l []api.Entry
	for _, e := range m.keys {
		l = append(l, e)
	}
	slices.SortFunc(l, func(a, b api.Entry) int { return strings.Compare(a.Key, b.Key) })
	return l
}

// there is the entry of a key that is there for a command.
func (m *model) there(key string) (api.Entry, bool) {
	e, is := m.keys[key]
	if !is || e.Due != 0 && int64(e.Due) <= m.now {
		return api.Entry{}, false
	}
	return e, true
}

// all is the keys that are there for a command, rising.
func (m *model) all() []string {
	var l []string
	for _, e := range m.entries() {
		if _, is := m.there(e.Key); is {
			l = append(l, e.Key)
		}
	}
	return l
}

func (m *model) put(key string, v api.Value, due int) {
	m.touches++
	m.keys[key] = api.Entry{Key: key, Value: v, Due: due, Version: m.touches}
	m.changes = append(m.changes, fmt.Sprintf("put %s %s %d", key, plain(v), due))
}

func (m *model) drop(key string) {
	m.touches++
	delete(m.keys, key)
	m.changes = append(m.changes, "drop "+key)
}

func (m *model) setDue(key string, due int) {
	m.touches++
	e := m.keys[key]
	e.Due, e.Version = due, m.touches
	m.keys[key] = e
	m.changes = append(m.changes, fmt.Sprintf("due %s %d", key, due))
}

func (m *model) clear() {
	if len(m.keys) > 0 {
		m.touches += uint64(len(m.keys))
		m.keys = map[string]api.Entry{}
		m.changes = append(m.changes, "clear")
	}
}

func modelError(text string) api.Reply { return api.Reply{Kind: 2, Text: text} }

func modelInt(n int) api.Reply { return api.Reply{Kind: 3, N: n} }

func modelBulk(text string) api.Reply { return api.Reply{Kind: 4, Text: text} }

func modelOK() api.Reply { return api.Reply{Kind: 1, Text: "OK"} }

func modelBulks(words []string) api.Reply {
	r := api.Reply{Kind: 6}
	for _, word := range words {
		r.List = append(r.List, modelBulk(word))
	}
	return r
}

var isNumber = regexp.MustCompile(`\A(0|-?[1-9][0-9]*)\z`)

// big64 is a number's text as a number, if it is one.
func big64(s string) (*big.Int, bool) {
	if !isNumber.MatchString(s) {
		return nil, false
	}
	n, _ := new(big.Int).SetString(s, 10)
	return n, n.IsInt64()
}

var lastTick = big.NewInt(9007199254740992)

// arity is how many words each command takes, with its name: below 0 at least so many.
func arity() map[string]int {
	return map[string]int{
		"copy": -3, "dbsize": 1, "del": -2, "dump": 2, "echo": 2, "exists": -2, "expire": -3, "expireat": -3, "expiretime": 2, "flushall": 1, "flushdb": 1, "keys": 2, "persist": 2,
		"pexpire": -3, "pexpireat": -3, "pexpiretime": 2, "ping": -1, "pttl": 2, "rename": 3, "renamenx": 3, "restore": -4, "scan": -2, "ttl": 2, "type": 2, "unlink": -2,
	}
}

func (m *model) run(now int, args []string) (api.Reply, bool) {
	m.now, m.changes = int64(now), nil
	if now < 0 {
		m.now = 0
	}
	if now > 9007199254740992 {
		m.now = 9007199254740992
	}
	if len(args) == 0 {
		return api.Reply{}, false
	}
	name := strings.ToLower(args[0])
	n, known := arity()[name]
	if !known || n > 0 && len(args) != n || n < 0 && len(args) < -n {
		return api.Reply{}, false
	}
	a := args[1:]
	switch name {
	case "ping", "echo", "dbsize", "flushall", "flushdb", "del", "unlink", "exists", "type":
		return m.simple(name, a), true
	case "rename", "renamenx", "copy":
		return m.moved(name, a[0], a[1], a[2:]), true
	case "expire", "pexpire", "expireat", "pexpireat":
		return m.expire(name, a[0], a[1], a[2:]), true
	case "persist":
		if e, is := m.there(a[0]); is && e.Due != 0 {
			m.setDue(a[0], 0)
			return modelInt(1), true
		}
		return modelInt(0), true
	case "ttl", "pttl", "expiretime", "pexpiretime":
		return m.tell(name, a[0]), true
	case "keys":
		return modelBulks(m.matching(m.all(), a[0])), true
	case "scan":
		return m.scan(a[0], a[1:]), true
	case "dump":
		e, is := m.there(a[0])
		if !is {
			return api.Reply{Kind: 5}, true
		}
		b, _ := value.Encode(e.Value)
		return modelBulk(b), true
	}
	return m.restore(a[0], a[1], a[2], a[3:]), true
}

func (m *model) simple(name string, a []string) api.Reply {
	n := 0
	switch name {
	case "ping":
		if len(a) > 1 {
			return modelError("ERR wrong number of arguments: ping")
		}
		if len(a) == 0 {
			return api.Reply{Kind: 1, Text: "PONG"}
		}
		return modelBulk(a[0])
	case "echo":
		return modelBulk(a[0])
	case "dbsize":
		return modelInt(len(m.all()))
	case "flushall", "flushdb":
		m.clear()
		return modelOK()
	case "type":
		e, _ := m.there(a[0])
		return api.Reply{Kind: 1, Text: []string{"none", "string", "list", "hash", "set", "zset"}[e.Value.Kind]}
	}
	for _, key := range a {
		if _, is := m.there(key); is {
			n++
			if name != "exists" {
				m.drop(key)
			}
		}
	}
	return modelInt(n)
}

// options is which of the words that may stand there do, in small letters; false, if there is another one.
func options(words []string, may ...string) (map[string]bool, bool) {
	said := map[string]bool{}
	for _, word := range words {
		if !slices.Contains(may, strings.ToLower(word)) {
			return nil, false
		}
		said[strings.ToLower(word)] = true
	}
	return said, true
}

func (m *model) moved(name, from, to string, behind []string) api.Reply {
	said, ok := options(behind, "replace")
	if !ok {
		return modelError("ERR syntax")
	}
	e, is := m.there(from)
	_, taken := m.there(to)
	if name == "copy" {
		if !is || from == to || taken && !said["replace"] {
			return modelInt(0)
		}
		m.put(to, e.Value, e.Due)
		return modelInt(1)
	}
	if !is {
		return modelError("ERR no such key")
	}
	if name == "renamenx" && taken {
		return modelInt(0)
	}
	if from != to {
		m.put(to, e.Value, e.Due)
		m.drop(from)
	}
	if name == "renamenx" {
		return modelInt(1)
	}
	return modelOK()
}

func (m *model) expire(name, key, word string, behind []string) api.Reply {
	n, ok := big64(word)
	if !ok {
		return modelError("ERR a number is wanted")
	}
	due := new(big.Int).Set(n)
	if !strings.HasPrefix(name, "p") {
		due.Mul(due, big.NewInt(1000))
	}
	if !strings.HasSuffix(name, "at") {
		due.Add(due, big.NewInt(m.now))
	}
	if due.Cmp(lastTick) > 0 {
		return modelError("ERR the deadline may not be")
	}
	said, ok := options(behind, "nx", "xx", "gt", "lt")
	if !ok || said["nx"] && (said["xx"] || said["gt"] || said["lt"]) || said["gt"] && said["lt"] {
		return modelError("ERR syntax")
	}
	e, is := m.there(key)
	if !is {
		return modelInt(0)
	}
	above := due.Cmp(big.NewInt(int64(e.Due)))
	switch {
	case said["nx"] && e.Due != 0, said["xx"] && e.Due == 0, said["gt"] && (e.Due == 0 || above <= 0), said["lt"] && e.Due != 0 && above >= 0:
		return modelInt(0)
	}
	if due.Cmp(big.NewInt(m.now)) <= 0 {
		m.drop(key)
	} else {
		m.setDue(key, int(due.Int64()))
	}
	return modelInt(1)
}

func (m *model) tell(name, key string) api.Reply {
	e, is := m.there(key)
	if !is {
		return modelInt(-2)
	}
	if e.Due == 0 {
		return modelInt(-1)
	}
	ticks := e.Due
	if strings.HasSuffix(name, "ttl") {
		ticks -= int(m.now)
	}
	if strings.HasPrefix(name, "p") {
		return modelInt(ticks)
	}
	seconds := ticks / 1000
	if ticks%1000 > 0 {
		seconds++
	}
	return modelInt(seconds)
}

func (m *model) matching(keys []string, pattern string) []string {
	var l []string
	for _, key := range keys {
		if glob.Match(pattern, key) {
			l = append(l, key)
		}
	}
	return l
}

func (m *model) scan(cursor string, behind []string) api.Reply {
	if !(cursor == "0" || cursor != "" && cursor[0] == '>') {
		return modelError("ERR the cursor may not be")
	}
	pattern, matched, most := "", false, big.NewInt(10)
	for i := 0; i < len(behind); i += 2 {
		word := strings.ToLower(behind[i])
		if word != "match" && word != "count" || i+1 == len(behind) {
			return modelError("ERR syntax")
		}
		if word == "match" {
			pattern, matched = behind[i+1], true
			continue
		}
		n, ok := big64(behind[i+1])
		if !ok {
			return modelError("ERR a number is wanted")
		}
		if n.Sign() < 1 {
			return modelError("ERR syntax")
		}
		most = n
	}
	var looked, others []string
	for _, key := range m.all() {
		if cursor != "0" && key <= cursor[1:] {
			continue
		}
		if big.NewInt(int64(len(looked))).Cmp(most) < 0 {
			looked = append(looked, key)
		} else {
			others = append(others, key)
		}
	}
	next := "0"
	if len(others) > 0 {
		next = ">" + looked[len(looked)-1]
	}
	if matched {
		looked = m.matching(looked, pattern)
	}
	return api.Reply{Kind: 6, List: []api.Reply{modelBulk(next), modelBulks(looked)}}
}

func (m *model) restore(key, word, bytes string, behind []string) api.Reply {
	n, ok := big64(word)
	if !ok {
		return modelError("ERR a number is wanted")
	}
	if n.Sign() < 0 || n.Cmp(lastTick) > 0 {
		return modelError("ERR the deadline may not be")
	}
	v, length, e := value.Decode(bytes)
	if e != 0 || length < len(bytes) {
		return modelError("ERR the bytes are no value's")
	}
	said, ok := options(behind, "replace", "absttl")
	if !ok {
		return modelError("ERR syntax")
	}
	due := int(n.Int64())
	if n.Sign() > 0 && !said["absttl"] {
		due += int(m.now)
	}
	if due > 9007199254740992 {
		return modelError("ERR the deadline may not be")
	}
	_, is := m.there(key)
	if is && !said["replace"] {
		return modelError("BUSYKEY the key is there")
	}
	if due == 0 || int64(due) > m.now {
		m.put(key, v, due)
	} else if is {
		m.drop(key)
	}
	return modelOK()
}

// alike fails unless a request on a space is answered, and changes it, as the model says; it says whether that is so.
func alike(t *testing.T, s *space.Space, now int, args []string) bool {
	t.Helper()
	m := modelOf(s)
	was := s.Entries()
	want, known := m.run(now, args)
	r, ok, changes := done(s, now, args)
	if ok != known || !sameReply(r, want) || changes != strings.Join(m.changes, ", ") {
		t.Errorf("%q at %d on %.300s: %s, %v, changes: %s; not %s, changes: %q", args, now, fmt.Sprint(was), resp.Show(r), ok, changes, resp.Show(want), m.changes)
		return false
	}
	if s.Counter() != m.touches || !slices.EqualFunc(s.Entries(), m.entries(), sameEntry) {
		t.Errorf("%q at %d: %.300s became %.300s", args, now, fmt.Sprint(was), told(s))
		return false
	}
	return true
}

// sameReply holds replies against each other; a list of no length may be nil or not.
func sameReply(a, b api.Reply) bool {
	if !slices.EqualFunc(a.List, b.List, sameReply) {
		return false
	}
	a.List, b.List = nil, nil
	return reflect.DeepEqual(a, b)
}

func sameEntry(a, b api.Entry) bool {
	return a.Key == b.Key && a.Due == b.Due && a.Version == b.Version && value.Same(a.Value, b.Value)
}
