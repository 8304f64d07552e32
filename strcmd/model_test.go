package strcmd

import (
	"fmt"
	"math/big"
	"reflect"
	"regexp"
	"slices"
	"strings"
	"testing"

	"covenant/api"
	"covenant/resp"
	"covenant/space"
	"covenant/value"
)

// model is the keys by the chapter's words, and what was done to them.
type model struct {
	keys    map[string]api.Entry
	now     int
	changes []string
	touches uint64
}

// modelOf is the model of what a space holds.
func modelOf(s *space.Space) *model {
	m := &model{keys: map[string]api.Entry{}, touches: s.Counter()}
	for _, e := range s.Entries() {
		m.keys[e.Key] = e
	}
	return m
}

func (m *model) entries() []api.Entry {
	var l []api.Entry
	for _, e := range m.keys {
		l = append(l, e)
	}
	slices.SortFunc(l, func(a, b api.Entry) int { return strings.Compare(a.Key, b.Key) })
	return l
}

// seen is the entry of a key that is seen at now.
func (m *model) seen(key string) (api.Entry, bool) {
	e, there := m.keys[key]
	if !there || 0 < e.Due && e.Due <= m.now {
		return api.Entry{}, false
	}
	return e, true
}

func (m *model) text(key string) string {
	e, _ := m.seen(key)
	return e.Value.Text
}

func (m *model) wrong(keys ...string) bool {
	for _, key := range keys {
		if e, there := m.seen(key); there && e.Value.Kind != 1 {
			return true
		}
	}
	return false
}

func (m *model) bulk(key string) api.Reply {
	if e, there := m.seen(key); there {
		return api.Reply{Kind: 4, Text: e.Value.Text}
	}
	return api.Reply{Kind: 5}
}

func (m *model) put(key, text string, due int) {
	m.touches++
	m.keys[key] = api.Entry{Key: key, Value: aText(text), Due: due, Version: m.touches}
	m.changes = append(m.changes, fmt.Sprintf("put %s %q %d", key, text, due))
}

func (m *model) change(key, text string) {
	e, _ := m.seen(key)
	m.put(key, text, e.Due)
}

func (m *model) drop(key string) {
	if _, there := m.seen(key); there {
		m.touches++
		delete(m.keys, key)
		m.changes = append(m.changes, "drop "+key)
	}
}

func (m *model) setDue(key string, due int) {
	m.touches++
	e := m.keys[key]
	e.Due, e.Version = due, m.touches
	m.keys[key] = e
	m.changes = append(m.changes, fmt.Sprintf("due %s %d", key, due))
}

func modelError(text string) api.Reply { return api.Reply{Kind: 2, Text: text} }

func modelInt(n int) api.Reply { return api.Reply{Kind: 3, N: n} }

func modelOK() api.Reply { return api.Reply{Kind: 1, Text: "OK"} }

var isNumber = regexp.MustCompile(`\A(0|-?[1-9][0-9]*)\z`)

// big64 is a number's text as a number, if it is one.
func big64(s string) (*big.Int, bool) {
	if !isNumber.MatchString(s) {
		return nil, false
	}
	n, _ := new(big.Int).SetString(s, 10)
	return n, n.IsInt64()
}

// modelTime is the deadline of a time, or the error.
func modelTime(now int, option, word string) (int, string) {
	n, ok := big64(word)
	if !ok {
		return 0, "ERR a number is wanted"
	}
	due := new(big.Int).Set(n)
	if strings.HasPrefix(option, "ex") {
		due.Mul(due, big.NewInt(1000))
	}
	if !strings.HasSuffix(option, "at") {
		if now < 0 {
			now = 0
		}
		if now > 9007199254740992 {
			now = 9007199254740992
		}
		due.Add(due, big.NewInt(int64(now)))
	}
	if n.Sign() < 1 || due.Cmp(big.NewInt(9007199254740992)) > 0 {
		return 0, "ERR the deadline may not be"
	}
	return int(due.Int64()), ""
}

// bitsOf is a text's bits as a text of 0 and 1.
func bitsOf(s string) string {
	var out strings.Builder
	for i := range len(s) {
		fmt.Fprintf(&out, "%08b", s[i])
	}
	return out.String()
}

// bytesOf is the text whose bits these are.
func bytesOf(bits string) string {
	var out []byte
	for i := 0; i < len(bits); i += 8 {
		n := 0
		for _, c := range bits[i : i+8] {
			n = 2*n + int(c-'0')
		}
		out = append(out, byte(n))
	}
	return string(out)
}

// between is the places of bytes from one place to another.
func between(s string, from, to int) []int {
	if from < 0 {
		from += len(s)
	}
	if to < 0 {
		to += len(s)
	}
	var places []int
	for i := range len(s) {
		if from <= i && i <= to {
			places = append(places, i)
		}
	}
	return places
}

// modelNumbers reads words as numbers, or tells that one is none.
func modelNumbers(words []string) ([]int, bool) {
	var l []int
	for _, word := range words {
		n, ok := big64(word)
		if !ok {
			return nil, false
		}
		l = append(l, int(n.Int64()))
	}
	return l, true
}

// arity is how many words each command takes, with its name: below 0 at least so many.
func arity() map[string]int {
	return map[string]int{
		"append": 3, "bitcount": -2, "bitop": -4, "bitpos": -3, "decr": 2, "decrby": 3, "get": 2, "getbit": 3, "getdel": 2, "getex": -2, "getrange": 4, "getset": 3,
		"incr": 2, "incrby": 3, "mget": -2, "mset": -3, "msetnx": -3, "psetex": 4, "set": -3, "setbit": 4, "setex": 4, "setnx": 3, "setrange": 4, "strlen": 2,
	}
}

func (m *model) run(now int, args []string) (api.Reply, bool) {
	m.now, m.changes = now, nil
	if len(args) == 0 {
		return api.Reply{}, false
	}
	name := strings.ToLower(args[0])
	n, known := arity()[name]
	if !known || n > 0 && len(args) != n || n < 0 && len(args) < -n {
		return api.Reply{}, false
	}
	for _, part := range []func(string, []string) (api.Reply, bool){m.reads, m.sets, m.adds, m.bits} {
		if r, ok := part(name, args[1:]); ok {
			return r, true
		}
	}
	return api.Reply{}, false
}

func (m *model) reads(name string, a []string) (api.Reply, bool) {
	switch name {
	case "get":
		if m.wrong(a[0]) {
			return modelError(api.TextWrong), true
		}
		return m.bulk(a[0]), true
	case "strlen":
		if m.wrong(a[0]) {
			return modelError(api.TextWrong), true
		}
		return modelInt(len(m.text(a[0]))), true
	case "getrange":
		n, ok := modelNumbers(a[1:])
		if !ok {
			return modelError(api.TextNumber), true
		}
		if m.wrong(a[0]) {
			return modelError(api.TextWrong), true
		}
		out := ""
		for _, i := range between(m.text(a[0]), n[0], n[1]) {
			out += m.text(a[0])[i : i+1]
		}
		return api.Reply{Kind: 4, Text: out}, true
	case "mget":
		var l []api.Reply
		for _, key := range a {
			if m.wrong(key) {
				l = append(l, api.Reply{Kind: 5})
			} else {
				l = append(l, m.bulk(key))
			}
		}
		return api.Reply{Kind: 6, List: l}, true
	}
	return api.Reply{}, false
}

// modelSetError is the first error of SET's options, from the left.
func modelSetError(now int, words []string) string {
	group := map[string]string{"nx": "unless", "xx": "unless", "get": "get", "keepttl": "life", "ex": "life", "px": "life", "exat": "life", "pxat": "life"}
	said := map[string]bool{}
	for i := 0; i < len(words); i++ {
		word := strings.ToLower(words[i])
		if group[word] == "" || said[group[word]] {
			return api.TextSyntax
		}
		said[group[word]] = true
		if strings.Contains(word, "ex") || strings.Contains(word, "px") {
			i++
			if i == len(words) {
				return api.TextSyntax
			}
			if _, wrong := modelTime(now, word, words[i]); wrong != "" {
				return wrong
			}
		}
	}
	return ""
}

func (m *model) sets(name string, a []string) (api.Reply, bool) {
	switch name {
	case "set":
		return m.set(a[0], a[1], a[2:]), true
	case "getset", "getdel":
		if m.wrong(a[0]) {
			return modelError(api.TextWrong), true
		}
		r := m.bulk(a[0])
		if name == "getset" {
			m.put(a[0], a[1], 0)
		} else {
			m.drop(a[0])
		}
		return r, true
	case "getex":
		return m.getex(a[0], a[1:]), true
	case "setnx":
		if _, there := m.seen(a[0]); there {
			return modelInt(0), true
		}
		m.put(a[0], a[1], 0)
		return modelInt(1), true
	case "setex", "psetex":
		due, wrong := modelTime(m.now, strings.TrimPrefix(name, "set"), a[1])
		if name == "psetex" {
			due, wrong = modelTime(m.now, "px", a[1])
		}
		if wrong != "" {
			return modelError(wrong), true
		}
		m.put(a[0], a[2], due)
		return modelOK(), true
	case "mset", "msetnx":
		if len(a)%2 == 1 {
			return modelError("ERR wrong number of arguments: " + name), true
		}
		for i := range a {
			if _, there := m.seen(a[i]); there && name == "msetnx" && i%2 == 0 {
				return modelInt(0), true
			}
		}
		for i := 0; i < len(a); i += 2 {
			m.put(a[i], a[i+1], 0)
		}
		if name == "mset" {
			return modelOK(), true
		}
		return modelInt(1), true
	}
	return api.Reply{}, false
}

func (m *model) set(key, text string, words []string) api.Reply {
	if wrong := modelSetError(m.now, words); wrong != "" {
		return modelError(wrong)
	}
	e, there := m.seen(key)
	due := 0
	said := map[string]bool{}
	for i, word := range words {
		word = strings.ToLower(word)
		said[word] = true
		switch word {
		case "keepttl":
			due = e.Due
		case "ex", "px", "exat", "pxat":
			due, _ = modelTime(m.now, word, words[i+1])
		}
	}
	if said["get"] && m.wrong(key) {
		return modelError(api.TextWrong)
	}
	was := m.bulk(key)
	if said["nx"] && there || said["xx"] && !there {
		if said["get"] {
			return was
		}
		return api.Reply{Kind: 5}
	}
	m.put(key, text, due)
	if said["get"] {
		return was
	}
	return modelOK()
}

func (m *model) getex(key string, words []string) api.Reply {
	line := strings.ToLower(strings.Join(words, " "))
	times := []string{"ex", "px", "exat", "pxat"}
	time := len(words) == 2 && slices.Contains(times, strings.ToLower(words[0]))
	if !time && line != "persist" && len(words) > 0 {
		return modelError(api.TextSyntax)
	}
	due := 0
	if time {
		var wrong string
		if due, wrong = modelTime(m.now, strings.ToLower(words[0]), words[1]); wrong != "" {
			return modelError(wrong)
		}
	}
	if m.wrong(key) {
		return modelError(api.TextWrong)
	}
	r := m.bulk(key)
	if e, there := m.seen(key); there && (time || line == "persist" && e.Due > 0) {
		m.setDue(key, due)
	}
	return r
}

func (m *model) adds(name string, a []string) (api.Reply, bool) {
	switch name {
	case "append":
		if m.wrong(a[0]) {
			return modelError(api.TextWrong), true
		}
		text := m.text(a[0]) + a[1]
		if len(text) > 1<<20 {
			return modelError(api.TextLong), true
		}
		m.change(a[0], text)
		return modelInt(len(text)), true
	case "setrange":
		return m.setrange(a[0], a[1], a[2]), true
	case "incr", "decr", "incrby", "decrby":
		return m.add(name, a), true
	}
	return api.Reply{}, false
}

func (m *model) setrange(key, place, laid string) api.Reply {
	at, ok := big64(place)
	if !ok {
		return modelError(api.TextNumber)
	}
	if at.Sign() < 0 {
		return modelError(api.TextOffset)
	}
	if m.wrong(key) {
		return modelError(api.TextWrong)
	}
	text := m.text(key)
	if laid == "" {
		return modelInt(len(text))
	}
	end := new(big.Int).Add(at, big.NewInt(int64(len(laid))))
	if end.Cmp(big.NewInt(1<<20)) > 0 {
		return modelError(api.TextLong)
	}
	for len(text) < int(end.Int64()) {
		text += "\x00"
	}
	text = text[:at.Int64()] + laid + text[end.Int64():]
	m.change(key, text)
	return modelInt(len(text))
}

func (m *model) add(name string, a []string) api.Reply {
	by := big.NewInt(1)
	if strings.HasSuffix(name, "by") {
		n, ok := big64(a[1])
		if !ok {
			return modelError(api.TextNumber)
		}
		by = n
	}
	if strings.HasPrefix(name, "decr") {
		by = new(big.Int).Neg(by)
	}
	if !by.IsInt64() {
		return modelError(api.TextOverflow)
	}
	if m.wrong(a[0]) {
		return modelError(api.TextWrong)
	}
	sum, ok := big64(m.text(a[0]))
	if _, there := m.seen(a[0]); !there {
		sum, ok = new(big.Int), true
	}
	if !ok {
		return modelError(api.TextNumber)
	}
	sum = new(big.Int).Add(sum, by)
	if !sum.IsInt64() {
		return modelError(api.TextOverflow)
	}
	m.change(a[0], sum.String())
	return modelInt(int(sum.Int64()))
}

func (m *model) bits(name string, a []string) (api.Reply, bool) {
	switch name {
	case "getbit", "setbit":
		return m.bit(name, a), true
	case "bitcount":
		if len(a) == 2 || len(a) > 3 {
			return modelError(api.TextSyntax), true
		}
		n, ok := modelNumbers(a[1:])
		if !ok {
			return modelError(api.TextNumber), true
		}
		if m.wrong(a[0]) {
			return modelError(api.TextWrong), true
		}
		if len(n) == 0 {
			n = []int{0, -1}
		}
		ones := 0
		for _, i := range between(m.text(a[0]), n[0], n[1]) {
			ones += strings.Count(bitsOf(m.text(a[0])[i:i+1]), "1")
		}
		return modelInt(ones), true
	case "bitpos":
		return m.bitpos(a), true
	case "bitop":
		return m.bitop(a), true
	}
	return api.Reply{}, false
}

func (m *model) bit(name string, a []string) api.Reply {
	n, ok := big64(a[1])
	if !ok {
		return modelError(api.TextNumber)
	}
	if n.Sign() < 0 || n.Cmp(big.NewInt(8*1048576)) >= 0 {
		return modelError(api.TextOffset)
	}
	if name == "setbit" && a[2] != "0" && a[2] != "1" {
		return modelError(api.TextBit)
	}
	if m.wrong(a[0]) {
		return modelError(api.TextWrong)
	}
	at, bits := int(n.Int64()), bitsOf(m.text(a[0]))
	if name == "getbit" {
		if at < len(bits) && bits[at] == '1' {
			return modelInt(1)
		}
		return modelInt(0)
	}
	for at >= len(bits) {
		bits += "00000000"
	}
	was := int(bits[at] - '0')
	m.change(a[0], bytesOf(bits[:at]+a[2]+bits[at+1:]))
	return modelInt(was)
}

func (m *model) bitpos(a []string) api.Reply {
	if len(a) > 4 {
		return modelError(api.TextSyntax)
	}
	if a[1] != "0" && a[1] != "1" {
		return modelError(api.TextBit)
	}
	n, ok := modelNumbers(a[2:])
	if !ok {
		return modelError(api.TextNumber)
	}
	if m.wrong(a[0]) {
		return modelError(api.TextWrong)
	}
	text := m.text(a[0])
	if text == "" {
		if a[1] == "0" {
			return modelInt(0)
		}
		return modelInt(-1)
	}
	from, to := 0, -1
	if len(n) > 0 {
		from = n[0]
	}
	if len(n) > 1 {
		to = n[1]
	}
	// Every byte that is not looked at has no such bit.
	looked := ""
	for i := range len(text) {
		if slices.Contains(between(text, from, to), i) {
			looked += bitsOf(text[i : i+1])
		} else {
			looked += "--------"
		}
	}
	at := strings.Index(looked, a[1])
	if at < 0 && a[1] == "0" && len(n) < 2 && len(between(text, from, -1)) > 0 {
		at = len(looked)
	}
	return modelInt(at)
}

func (m *model) bitop(a []string) api.Reply {
	op, target, keys := strings.ToLower(a[0]), a[1], a[2:]
	if !slices.Contains([]string{"and", "or", "xor", "not"}, op) || op == "not" && len(keys) > 1 {
		return modelError(api.TextSyntax)
	}
	if m.wrong(keys...) {
		return modelError(api.TextWrong)
	}
	longest := 0
	for _, key := range keys {
		longest = max(longest, len(bitsOf(m.text(key))))
	}
	out := ""
	for i := range longest {
		ones := 0
		for _, key := range keys {
			if bits := bitsOf(m.text(key)); i < len(bits) && bits[i] == '1' {
				ones++
			}
		}
		is := map[string]bool{"and": ones == len(keys), "or": ones > 0, "xor": ones%2 == 1, "not": ones == 0}[op]
		out += map[bool]string{true: "1", false: "0"}[is]
	}
	if out == "" {
		m.drop(target)
	} else {
		m.put(target, bytesOf(out), 0)
	}
	return modelInt(longest / 8)
}

// alike fails unless a request on a space is answered, and changes it, as the model says; it says whether that is so.
func alike(t *testing.T, s *space.Space, now int, args []string) bool {
	t.Helper()
	m := modelOf(s)
	was := s.Entries()
	want, known := m.run(now, args)
	r, ok, changes := done(s, now, args)
	if ok != known || !reflect.DeepEqual(r, want) || changes != strings.Join(m.changes, ", ") {
		t.Errorf("%q at %d on %.300s: %s, %v, changes: %s; not %s, changes: %q", args, now, fmt.Sprint(was), resp.Show(r), ok, changes, resp.Show(want), m.changes)
		return false
	}
	if s.Counter() != m.touches || !slices.EqualFunc(s.Entries(), m.entries(), sameEntry) {
		t.Errorf("%q at %d: %.300s became %.300s", args, now, fmt.Sprint(was), told(s))
		return false
	}
	return true
}

func sameEntry(a, b api.Entry) bool {
	return a.Key == b.Key && a.Due == b.Due && a.Version == b.Version && value.Same(a.Value, b.Value)
}
