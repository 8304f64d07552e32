package listcmd

import (
	"fmt"
	"math/big"
	"reflect"
	"regexp"
	"slices"
	"strings"
	"testing"

	"covenant/api"
	"covenant/resp"
	"covenant/space"
	"covenant/value"
)

// model is the keys by the chapter's words, and what was done to them.
type model struct {
	keys    map[string]api.Entry
	now     int
	changes []string
	touches uint64
}

// modelOf is the model of what a space holds.
func modelOf(s *space.Space) *model {
	m := &model{keys: map[string]api.Entry{}, touches: s.Counter()}
	for _, e := range s.Entries() {
		m.keys[e.Key] = e
	}
	return m
}

func (m *model) entries() []api.Entry {
	var l []api.Entry
	for _, e := range m.keys {
		l = append(l, e)
	}
	slices.SortFunc(l, func(a, b api.Entry) int { return strings.Compare(a.Key, b.Key) })
	return l
}

// seen is the entry of a key that is seen at now.
func (m *model) seen(key string) api.Entry {
	e := m.keys[key]
	if e.Due != 0 && e.Due <= m.now {
		return api.Entry{}
	}
	return e
}

// list is the list at a key, as a copy.
func (m *model) list(key string) []string {
	return slices.Clone(m.seen(key).Value.List)
}

// wrong says whether one of the keys holds another kind.
func (m *model) wrong(keys ...string) bool {
	for _, key := range keys {
		if kind := m.seen(key).Value.Kind; kind != 0 && kind != 2 {
			return true
		}
	}
	return false
}

// put puts a list, if no element is too long; it says whether it did.
func (m *model) put(key string, list []string) bool {
	for _, element := range list {
		if len(element) > 1048576 {
			return false
		}
	}
	m.touches++
	if len(list) == 0 {
		delete(m.keys, key)
		m.changes = append(m.changes, "drop "+key)
		return true
	}
	due := m.seen(key).Due
	m.keys[key] = api.Entry{Key: key, Value: aList(list...), Due: due, Version: m.touches}
	m.changes = append(m.changes, fmt.Sprintf("put %s list%v %d", key, list, due))
	return true
}

func modelError(text string) api.Reply { return api.Reply{Kind: 2, Text: text} }

func modelInt(n int) api.Reply { return api.Reply{Kind: 3, N: n} }

func modelBulk(text string) api.Reply { return api.Reply{Kind: 4, Text: text} }

func modelNull() api.Reply { return api.Reply{Kind: 5} }

// after is a reply, if what it tells of could be put.
func after(put bool, r api.Reply) api.Reply {
	if !put {
		return modelError("ERR the value would be too long")
	}
	return r
}

func modelBulks(words []string) api.Reply {
	r := api.Reply{Kind: 6}
	for _, word := range words {
		r.List = append(r.List, modelBulk(word))
	}
	return r
}

var isNumber = regexp.MustCompile(`\A(0|-?[1-9][0-9]*)\z`)

// big64 is a number's text as a number, if it is one.
func big64(s string) (*big.Int, bool) {
	if !isNumber.MatchString(s) {
		return nil, false
	}
	n, _ := new(big.Int).SetString(s, 10)
	return n, n.IsInt64()
}

// bigs is words as numbers, if all are.
func bigs(words ...string) ([]*big.Int, bool) {
	var l []*big.Int
	for _, word := range words {
		n, ok := big64(word)
		if !ok {
			return nil, false
		}
		l = append(l, n)
	}
	return l, true
}

// arity is how many words each command takes, with its name: below 0 at least so many.
func arity() map[string]int {
	return map[string]int{
		"lindex": 3, "linsert": 5, "llen": 2, "lmove": 5, "lpop": -2, "lpos": -3, "lpush": -3, "lpushx": -3, "lrange": 4, "lrem": 4, "lset": 4, "ltrim": 4, "rpop": -2, "rpoplpush": 3, "rpush": -3, "rpushx": -3,
	}
}

func (m *model) run(now int, args []string) (api.Reply, bool) {
	m.now, m.changes = now, nil
	if len(args) == 0 {
		return api.Reply{}, false
	}
	name := strings.ToLower(args[0])
	n, known := arity()[name]
	if !known || n > 0 && len(args) != n || n < 0 && len(args) < -n {
		return api.Reply{}, false
	}
	a := args[1:]
	switch name {
	case "lpush", "rpush", "lpushx", "rpushx":
		return m.push(name, a[0], a[1:]), true
	case "lpop", "rpop":
		return m.pop(name, a[0], a[1:]), true
	case "lmove":
		return m.move(a[0], a[1], a[2], a[3]), true
	case "rpoplpush":
		return m.move(a[0], a[1], "RIGHT", "LEFT"), true
	case "llen", "lrange", "lindex":
		return m.read(name, a[0], a[1:]), true
	case "lset":
		return m.set(a[0], a[1], a[2]), true
	case "lrem":
		return m.remove(a[0], a[1], a[2]), true
	case "ltrim":
		return m.trim(a[0], a[1], a[2]), true
	case "linsert":
		return m.insert(a[0], a[1], a[2], a[3]), true
	}
	return m.places(a[0], a[1], a[2:]), true
}

func (m *model) push(name, key string, elements []string) api.Reply {
	if m.wrong(key) {
		return modelError(api.TextWrong)
	}
	list := m.list(key)
	if strings.HasSuffix(name, "x") && len(list) == 0 {
		return modelInt(0)
	}
	for _, element := range elements {
		if name[0] == 'l' {
			list = append([]string{element}, list...)
		} else {
			list = append(list, element)
		}
	}
	return after(m.put(key, list), modelInt(len(list)))
}

func (m *model) pop(name, key string, more []string) api.Reply {
	if len(more) > 1 {
		return modelError("ERR syntax")
	}
	most, ok := bigs(more...)
	if !ok || len(more) > 0 && most[0].Sign() < 0 {
		return modelError("ERR a number is wanted")
	}
	if m.wrong(key) {
		return modelError(api.TextWrong)
	}
	if len(more) == 0 {
		most = []*big.Int{big.NewInt(1)}
	}
	list := m.list(key)
	if len(list) == 0 {
		return api.Reply{Kind: map[bool]int{true: 7, false: 5}[len(more) > 0]}
	}
	var gone []string
	for len(list) > 0 && big.NewInt(int64(len(gone))).Cmp(most[0]) < 0 {
		if name[0] == 'l' {
			gone, list = append(gone, list[0]), list[1:]
		} else {
			gone, list = append(gone, list[len(list)-1]), list[:len(list)-1]
		}
	}
	if len(gone) > 0 {
		m.put(key, list)
	}
	if len(more) == 0 {
		return modelBulk(gone[0])
	}
	return modelBulks(gone)
}

func (m *model) move(key, target, from, to string) api.Reply {
	from, to = strings.ToUpper(from), strings.ToUpper(to)
	if from != "LEFT" && from != "RIGHT" || to != "LEFT" && to != "RIGHT" {
		return modelError("ERR syntax")
	}
	if m.wrong(key, target) {
		return modelError(api.TextWrong)
	}
	list := m.list(key)
	if len(list) == 0 {
		return modelNull()
	}
	at := map[string]int{"LEFT": 0, "RIGHT": len(list) - 1}[from]
	element := list[at]
	list = slices.Delete(list, at, at+1)
	onto := list
	if key != target {
		m.put(key, list)
		onto = m.list(target)
	}
	onto = slices.Insert(onto, map[string]int{"LEFT": 0, "RIGHT": len(onto)}[to], element)
	m.put(target, onto)
	return modelBulk(element)
}

// between is the elements from one place to another.
func between(list []string, from, to *big.Int) []string {
	length := big.NewInt(int64(len(list)))
	if from.Sign() < 0 {
		from = new(big.Int).Add(from, length)
	}
	if to.Sign() < 0 {
		to = new(big.Int).Add(to, length)
	}
	var piece []string
	for i, element := range list {
		at := big.NewInt(int64(i))
		if from.Cmp(at) <= 0 && at.Cmp(to) <= 0 {
			piece = append(piece, element)
		}
	}
	return piece
}

func (m *model) read(name, key string, words []string) api.Reply {
	n, ok := bigs(words...)
	if !ok {
		return modelError("ERR a number is wanted")
	}
	if m.wrong(key) {
		return modelError(api.TextWrong)
	}
	list := m.list(key)
	switch name {
	case "llen":
		return modelInt(len(list))
	case "lrange":
		return modelBulks(between(list, n[0], n[1]))
	}
	// Of a number from 0 on it is what stands from there to there; below 0 likewise, unless that is ahead of all.
	one := between(list, n[0], n[0])
	if len(one) == 0 {
		return modelNull()
	}
	return modelBulk(one[0])
}

func (m *model) set(key, word, element string) api.Reply {
	n, ok := big64(word)
	if !ok {
		return modelError("ERR a number is wanted")
	}
	if m.wrong(key) {
		return modelError(api.TextWrong)
	}
	list := m.list(key)
	if len(list) == 0 {
		return modelError("ERR no such key")
	}
	for i := range list {
		if n.String() == fmt.Sprint(i) || n.String() == fmt.Sprint(i-len(list)) {
			list[i] = element
			return after(m.put(key, list), api.Reply{Kind: 1, Text: "OK"})
		}
	}
	return modelError("ERR the index lies outside")
}

func (m *model) remove(key, word, element string) api.Reply {
	n, ok := big64(word)
	if !ok {
		return modelError("ERR a number is wanted")
	}
	if m.wrong(key) {
		return modelError(api.TextWrong)
	}
	list := m.list(key)
	if n.Sign() < 0 {
		slices.Reverse(list)
	}
	gone := 0
	var left []string
	for _, x := range list {
		if x == element && (n.Sign() == 0 || big.NewInt(int64(gone)).CmpAbs(n) < 0) {
			gone++
		} else {
			left = append(left, x)
		}
	}
	if n.Sign() < 0 {
		slices.Reverse(left)
	}
	if gone > 0 {
		m.put(key, left)
	}
	return modelInt(gone)
}

func (m *model) trim(key, from, to string) api.Reply {
	n, ok := bigs(from, to)
	if !ok {
		return modelError("ERR a number is wanted")
	}
	if m.wrong(key) {
		return modelError(api.TextWrong)
	}
	list := m.list(key)
	if piece := between(list, n[0], n[1]); len(piece) < len(list) {
		m.put(key, piece)
	}
	return api.Reply{Kind: 1, Text: "OK"}
}

func (m *model) insert(key, side, pivot, element string) api.Reply {
	side = strings.ToUpper(side)
	if side != "BEFORE" && side != "AFTER" {
		return modelError("ERR syntax")
	}
	if m.wrong(key) {
		return modelError(api.TextWrong)
	}
	var list []string
	found := false
	for _, x := range m.list(key) {
		switch {
		case found || x != pivot:
			list = append(list, x)
		case side == "BEFORE":
			list, found = append(list, element, x), true
		default:
			list, found = append(list, x, element), true
		}
	}
	if len(list) == 0 {
		return modelInt(0)
	}
	if !found {
		return modelInt(-1)
	}
	return after(m.put(key, list), modelInt(len(list)))
}

// modelOptions is the numbers of LPOS's options, or the first error.
func modelOptions(words []string) (map[string]*big.Int, string) {
	said := map[string]*big.Int{}
	for i := 0; i < len(words); i += 2 {
		name := strings.ToUpper(words[i])
		if name != "RANK" && name != "COUNT" && name != "MAXLEN" || said[name] != nil || i+1 == len(words) {
			return nil, "ERR syntax"
		}
		n, ok := big64(words[i+1])
		if !ok || name == "RANK" && n.Sign() == 0 || name != "RANK" && n.Sign() < 0 {
			return nil, "ERR a number is wanted"
		}
		said[name] = n
	}
	return said, ""
}

func (m *model) places(key, element string, words []string) api.Reply {
	said, wrong := modelOptions(words)
	if wrong != "" {
		return modelError(wrong)
	}
	if m.wrong(key) {
		return modelError(api.TextWrong)
	}
	list := m.list(key)
	way := make([]int, len(list))
	for i := range way {
		way[i] = i
	}
	rank := said["RANK"]
	if rank == nil {
		rank = big.NewInt(1)
	}
	if rank.Sign() < 0 {
		slices.Reverse(way)
	}
	var met []api.Reply
	matches := int64(0)
	for looked, i := range way {
		if most := said["MAXLEN"]; most != nil && most.Sign() > 0 && big.NewInt(int64(looked)).Cmp(most) >= 0 {
			break
		}
		if list[i] == element {
			matches++
			if big.NewInt(matches).CmpAbs(rank) >= 0 {
				met = append(met, modelInt(i))
			}
		}
	}
	count := said["COUNT"]
	if count == nil {
		if len(met) == 0 {
			return modelNull()
		}
		return met[0]
	}
	if count.Sign() > 0 && big.NewInt(int64(len(met))).Cmp(count) > 0 {
		met = met[:count.Int64()]
	}
	return api.Reply{Kind: 6, List: met}
}

// alike fails unless a request on a space is answered, and changes it, as the model says; it says whether that is so.
func alike(t *testing.T, s *space.Space, now int, args []string) bool {
	t.Helper()
	m := modelOf(s)
	was := s.Entries()
	want, known := m.run(now, args)
	r, ok, changes := done(s, now, args)
	if ok != known || !sameReply(r, want) || changes != strings.Join(m.changes, ", ") {
		t.Errorf("%q at %d on %.300s: %s, %v, changes: %s; not %s, changes: %q", args, now, fmt.Sprint(was), resp.Show(r), ok, changes, resp.Show(want), m.changes)
		return false
	}
	if s.Counter() != m.touches || !slices.EqualFunc(s.Entries(), m.entries(), sameEntry) {
		t.Errorf("%q at %d: %.300s became %.300s", args, now, fmt.Sprint(was), told(s))
		return false
	}
	return true
}

// sameReply holds replies against each other; a list of no length may be nil or not.
func sameReply(a, b api.Reply) bool {
	if !slices.EqualFunc(a.List, b.List, sameReply) {
		return false
	}
	a.List, b.List = nil, nil
	return reflect.DeepEqual(a, b)
}

func sameEntry(a, b api.Entry) bool {
	return a.Key == b.Key && a.Due == b.Due && a.Version == b.Version && value.Same(a.Value, b.Value)
}
