package glob

import (
	"math/rand"
	"slices"
	"strings"
	"testing"
	"time"
)

// piece is what one piece of a pattern means: any row of bytes, or one byte of a set.
type piece struct {
	star bool
	set  [256]bool
}

// pieces reads a pattern by the chapter's words, one after the other.
func pieces(pattern string) []piece {
	l := []piece{}
	for pattern != "" {
		x := piece{}
		switch {
		case pattern[0] == '*':
			x.star = true
			pattern = pattern[1:]
		case pattern[0] == '?':
			for i := range x.set {
				x.set[i] = true
			}
			pattern = pattern[1:]
		case pattern[0] == '[':
			pattern = class(&x, pattern[1:])
		case pattern[0] == '\\' && len(pattern) > 1:
			x.set[pattern[1]] = true
			pattern = pattern[2:]
		default:
			x.set[pattern[0]] = true
			pattern = pattern[1:]
		}
		l = append(l, x)
	}
	return l
}

// class reads a class behind its [, and gives what is left of the pattern.
func class(x *piece, rest string) string {
	turned := strings.HasPrefix(rest, "^")
	if turned {
		rest = rest[1:]
	}
	for open := true; open; {
		switch {
		case rest == "":
			open = false
		case rest[0] == '\\' && len(rest) > 1:
			x.set[rest[1]] = true
			rest = rest[2:]
		case rest[0] == ']':
			open = false
			rest = rest[1:]
		case len(rest) > 2 && rest[1] == '-':
			for c := 0; c < 256; c++ {
				if int(rest[0]) <= c && c <= int(rest[2]) || int(rest[2]) <= c && c <= int(rest[0]) {
					x.set[c] = true
				}
			}
			rest = rest[3:]
		default:
			x.set[rest[0]] = true
			rest = rest[1:]
		}
	}
	if turned {
		for i := range x.set {
			x.set[i] = !x.set[i]
		}
	}
	return rest
}

// means is the plain model of Match: after each piece, at which places of s the pieces so far may have ended.
func means(l []piece, s string) bool {
	ends := make([]bool, len(s)+1)
	ends[0] = true
	for _, x := range l {
		next := make([]bool, len(s)+1)
		for i := range next {
			if x.star {
				next[i] = ends[i] || i > 0 && next[i-1]
			} else {
				next[i] = i > 0 && ends[i-1] && x.set[s[i-1]]
			}
		}
		ends = next
	}
	return ends[len(s)]
}

// one gives the one text that pieces mean, if each of them is a certain byte.
func one(l []piece) string {
	out := []byte{}
	for _, x := range l {
		out = append(out, byte(slices.Index(x.set[:], true)))
	}
	return string(out)
}

// small is the plain model of folding.
func small(s string) string {
	return strings.NewReplacer("A", "a", "B", "b", "C", "c", "D", "d", "E", "e", "F", "f", "G", "g", "H", "h", "I", "i", "J", "j", "K", "k", "L", "l", "M", "m",
		"N", "n", "O", "o", "P", "p", "Q", "q", "R", "r", "S", "s", "T", "t", "U", "u", "V", "v", "W", "w", "X", "x", "Y", "y", "Z", "z").Replace(s)
}

// texts gives all texts of at most length of the alphabet's bytes.
func texts(alphabet string, length int) []string {
	l := []string{""}
	for from := 0; length > 0; length-- {
		to := len(l)
		for _, s := range l[from:to] {
			for i := range len(alphabet) {
				l = append(l, s+alphabet[i:i+1])
			}
		}
		from = to
	}
	return l
}

// drawn gives a text of at most length bytes of the alphabet, or, if that is empty, of any.
func drawn(r *rand.Rand, alphabet string, length int) string {
	b := make([]byte, r.Intn(length+1))
	for i := range b {
		b[i] = byte(r.Intn(256))
		if alphabet != "" {
			b[i] = alphabet[r.Intn(len(alphabet))]
		}
	}
	return string(b)
}

// every gives the texts of one byte.
func every() []string {
	l := []string{}
	for c := range 256 {
		l = append(l, string([]byte{byte(c)}))
	}
	return l
}

type row struct {
	pattern string
	yes, no []string
}

func checkRows(t *testing.T, name string, f func(pattern, s string) bool, rows []row) {
	t.Helper()
	for _, x := range rows {
		for _, s := range x.yes {
			if !f(x.pattern, s) {
				t.Errorf("%s(%q, %q): no, want yes", name, x.pattern, s)
			}
		}
		for _, s := range x.no {
			if f(x.pattern, s) {
				t.Errorf("%s(%q, %q): yes, want no", name, x.pattern, s)
			}
		}
	}
}

// P2.1: bytes, question marks, stars, from the first byte to the last.
func TestMatchStars(t *testing.T) {
	checkRows(t, "Match", Match, []row{
		{"", []string{""}, []string{"a", " ", "\x00", "ab"}},
		{"a", []string{"a"}, []string{"", "b", "A", "aa", "ab", "ba"}},
		{"hello", []string{"hello"}, []string{"hell", "ello", "helloo", "hhello", "Hello", "hellO"}},
		{"?", []string{"a", "?", "*", "\x00", "\n", "\xff"}, []string{"", "ab", "\u00e9"}},
		{"??", []string{"ab", "\u00e9"}, []string{"", "a", "abc"}},
		{"h?llo", []string{"hello", "hallo", "h?llo"}, []string{"hllo", "heello", "hell", ""}},
		{"*", []string{"", "a", "*", "abc", "\x00\xff\n"}, nil},
		{"***", []string{"", "a", "abc"}, nil},
		{"h*llo", []string{"hello", "heeello", "hllo", "hllollo", "h*llo"}, []string{"", "h", "llo", "hell", "hlloo", "xhllo"}},
		{"a*", []string{"a", "ab", "aaaa"}, []string{"", "b", "ba"}},
		{"a**", []string{"a", "ab"}, []string{"", "b"}},
		{"*a", []string{"a", "ba", "aa", "aba"}, []string{"", "ab", "b"}},
		{"*a*", []string{"a", "ba", "ab", "bab"}, []string{"", "b", "bb"}},
		{"*?", []string{"a", "ab"}, []string{""}},
		{"?*", []string{"a", "ab"}, []string{""}},
		{"*?*?*", []string{"ab", "abc"}, []string{"", "a"}},
		{"a*b*c", []string{"aXbYc", "abc", "abbcc", "abcbc", "acbc"}, []string{"aXcYb", "ab", "ac", "abcd", "acb"}},
		{"*ab*ab", []string{"abab", "aabab", "ababab", "abaab"}, []string{"ab", "aba", "ababa", "abb"}},
		{"*aab", []string{"aab", "aaab", "aabaab", "aaaaab"}, []string{"aa", "ab", "aaba", "bab"}},
		{"a*a", []string{"aa", "aba", "aaa"}, []string{"a", "", "ab", "ba"}},
		{"-", []string{"-"}, []string{"", "a"}},
		{"^", []string{"^"}, []string{"", "a"}},
		{"]", []string{"]"}, []string{"", "a"}},
		{"a]^-", []string{"a]^-"}, []string{"a", "a]"}},
		{"\x00\xff", []string{"\x00\xff"}, []string{"", "\x00", "\x00\xfe"}},
		{"\u00e9*", []string{"\u00e9", "\u00e9a", "\xc3\xa9\xff"}, []string{"\xc3", "\xc3\xa8", "e"}},
	})
}

// P2.1: a \ takes the byte behind it for itself, and stands for itself at the end.
func TestMatchBackslash(t *testing.T) {
	checkRows(t, "Match", Match, []row{
		{`\*`, []string{`*`}, []string{"a", "", `\*`, `\`, "**"}},
		{`\?`, []string{`?`}, []string{"a", "", `\?`}},
		{`\[a]`, []string{`[a]`}, []string{"a", `\a`, "[a"}},
		{`\\`, []string{`\`}, []string{"", `\\`}},
		{`\a`, []string{`a`}, []string{`\a`, ""}},
		{`\]\^\-`, []string{`]^-`}, []string{`\]\^\-`}},
		{`\`, []string{`\`}, []string{"", "a", `\\`}},
		{`a\`, []string{`a\`}, []string{"a", `a\\`, "aa"}},
		{`*\`, []string{`\`, `a\`, `\\`}, []string{"", "a", `\a`}},
		{`\\*`, []string{`\`, `\a`, `\*`}, []string{"", "a", "*"}},
		{`\\\*`, []string{`\*`}, []string{`\`, `\a`, "*"}},
		{`\\\`, []string{`\\`}, []string{`\`, `\\\`}},
		{"\\\x00\\\xff", []string{"\x00\xff"}, []string{"\\\x00\\\xff", "\x00"}},
		{`*\**`, []string{"*", "a*", "*b", "a*b"}, []string{"", "a", "ab"}},
	})
	for _, c := range every() {
		if !Match(`\`+c, c) || Match(`\`+c, `\`+c) || Match(`\`+c, "") {
			t.Errorf("Match of a backslash ahead of %q", c)
		}
	}
}

// classes are those of the chapter and of its edges, each with the bytes that it means, or does not.
var classes = []struct {
	pattern, bytes string
	others         bool
}{
	{"[ae]", "ae", false}, {"[aa]", "a", false}, {"[a]", "a", false}, {"[^ae]", "ae", true},
	{"[]", "", false}, {"[", "", false}, {"[^]", "", true}, {"[^", "", true},
	{"[a", "a", false}, {"[ab", "ab", false}, {"[^a", "a", true}, {"[^ab", "ab", true},
	{"[a^]", "a^", false}, {"[^^]", "^", true}, {"[^^^]", "^", true}, {"[^a^]", "a^", true}, {`[\^]`, "^", false}, {`[\^a]`, "^a", false}, {`[^\^]`, "^", true},
	{"[a-c]", "abc", false}, {"[c-a]", "abc", false}, {"[a-a]", "a", false}, {"[^a-c]", "abc", true}, {"[^c-a]", "abc", true},
	{"[a-c", "abc", false}, {"[c-a", "abc", false}, {"[^a-c", "abc", true}, {"[a-cx]", "abcx", false}, {"[xa-c]", "abcx", false}, {"[a-cf-h]", "abcfgh", false},
	{"[a-c-e]", "abc-e", false}, {"[a-c-]", "abc-", false}, {"[a-c-", "abc-", false},
	{"[a-]", "]^_`a", false}, {"[^a-]", "]^_`a", true}, {"[a-]]", "]^_`a", false}, {"[a-]-c]", "]^_`a-c", false}, {"[[-]]", "[\\]", false}, {"[a-]b", "]^_`ab", false},
	{"[a-", "a-", false}, {"[^a-", "a-", true}, {"[-", "-", false}, {"[-]", "-", false}, {"[-a]", "-a", false}, {"[^-a]", "-a", true}, {"[^-]", "-", true},
	{"[--]", "-./0123456789:;<=>?@ABCDEFGHIJKLMNOPQRSTUVWXYZ[\\]", false}, {"[--", "-", false}, {"[---]", "-", false}, {"[+--]", "+,-", false}, {"[--+]", "+,-", false}, {"[----]", "-", false},
	{`[\]]`, "]", false}, {`[\]a]`, "]a", false}, {`[^\]]`, "]", true}, {`[\a]`, "a", false}, {`[\\]`, `\`, false}, {`[\-]`, "-", false}, {`[\[]`, "[", false},
	{`[\`, `\`, false}, {`[^\`, `\`, true}, {`[\]`, "]", false}, {`[^\]`, "]", true}, {`[a\`, `a\`, false}, {`[\\`, `\`, false}, {`[\a\`, `a\`, false},
	{`[\a-c]`, "a-c", false}, {`[\a-`, "a-", false}, {`[a\-c]`, "a-c", false}, {`[Z-\]`, `Z[\`, false}, {`[\--/]`, "-/", false}, {`[\-+--]`, "+,-", false}, {`[\\-^]`, `\-^`, false},
	{`[^-\]`, `-]`, true}, {`[\^-a]`, "^-a", false}, {"[a^-c]", "a^_`bc", false}, {"[^^-a]", "^_`a", true},
	{"[*]", "*", false}, {"[?]", "?", false}, {"[[]", "[", false}, {"[*?[]", "*?[", false}, {"[)-*]", ")*", false}, {"[!a]", "!a", false}, {"[[:a:]", "[:a", false},
	{"[A-C]", "ABC", false}, {"[aB]", "aB", false}, {"[X-c]", "XYZ[\\]^_`abc", false},
	{"[\x00-\x02]", "\x00\x01\x02", false}, {"[\xfd-\xff]", "\xfd\xfe\xff", false}, {"[\xff-\xfd]", "\xfd\xfe\xff", false}, {"[^\x80\xff]", "\x80\xff", true}, {"[\x7f-\x81]", "\x7f\x80\x81", false},
	{"[\u00e9]", "\xc3\xa9", false}, {"[\\\xff]", "\xff", false}, {"[\x00]", "\x00", false}, {"[^\x00]", "\x00", true}, {"[0-9]", "0123456789", false},
}

// P2.1: a class is one byte, and its items are read in the chapter's order.
func TestMatchClasses(t *testing.T) {
	for _, x := range classes {
		for _, c := range every() {
			if got, want := Match(x.pattern, c), strings.Contains(x.bytes, c) != x.others; got != want {
				t.Errorf("Match(%q, %q): %v, want %v", x.pattern, c, got, want)
			}
		}
		if Match(x.pattern, "") {
			t.Errorf("Match(%q, \"\"): yes; a class is a byte", x.pattern)
		}
		if Match(x.pattern, "ab") || Match(x.pattern, "^]") {
			t.Errorf("Match(%q) of two bytes: yes; a class is a byte", x.pattern)
		}
		if _, ok := Plain(x.pattern); ok {
			t.Errorf("Plain(%q): true; it has a class", x.pattern)
		}
	}
}

// P2.1: what stands behind a class goes on where the class ends.
func TestMatchBehindClasses(t *testing.T) {
	checkRows(t, "Match", Match, []row{
		{"h[ae]llo", []string{"hallo", "hello"}, []string{"hillo", "hllo", "haello", "h[ae]llo"}},
		{"h[^e]llo", []string{"hbllo", "h^llo"}, []string{"hello", "hllo"}},
		{"h[a-c]llo", []string{"hallo", "hbllo", "hcllo"}, []string{"hdllo", "h-llo"}},
		{"h[c-a]llo", []string{"hallo", "hbllo", "hcllo"}, []string{"hdllo", "h-llo"}},
		{"[]a]", nil, []string{"a]", "]a]", "a", "]", "xa]"}},
		{"[^]a]", []string{"xa]", "]a]"}, []string{"x", "a]"}},
		{"[]-a]", nil, []string{"]", "_", "x-a]", "-a]"}},
		{"[^]-a]", []string{"x-a]"}, []string{"x", "]"}},
		{"[a]]", []string{"a]"}, []string{"a", "]"}},
		{"[a-]]b", []string{"_b", "ab", "]b"}, []string{"_]b", "b", "-b"}},
		{"[a-b]c]", []string{"ac]", "bc]"}, []string{"a", "c"}},
		{`[\]]]`, []string{"]]"}, []string{"]"}},
		{`[Z-\]]]`, []string{`Z]]`, `\]]`}, []string{`]]]`, `\`, `\]`}},
		{"[[]a", []string{"[a"}, []string{"a", "[", "[[]a"}},
		{"[[]]", []string{"[]"}, []string{"[", "]"}},
		{"[a][b]", []string{"ab"}, []string{"a", "b", "ba"}},
		{"*[a]", []string{"a", "ba", "aa"}, []string{"", "ab"}},
		{"[a]*", []string{"a", "ab"}, []string{"", "ba"}},
		{"*[ab]*[cd]*", []string{"ac", "xaxdx", "bd"}, []string{"ca", "ab", "xcx"}},
		{"[a", []string{"a"}, []string{"[a", "", "aa"}},
		{"x[", nil, []string{"x", "x[", "xa"}},
		{"x[^", []string{"xa", "x["}, []string{"x", "xab"}},
		{"*[]*", nil, []string{"", "]", "[]", "a"}},
		{"[a*b]c", []string{"ac", "*c", "bc"}, []string{"axbc", "a*b", "c"}},
		{"[a?b]c", []string{"ac", "?c", "bc"}, []string{"xc", "c"}},
	})
}

// P2.1: short patterns of all kinds, held against the model.
func TestMatchShort(t *testing.T) {
	all := texts("ab]-", 3)
	all = append(all, "\\", "^", "[", "*", "?", "_", "`", "c", "\x80", "a\\", "\\a", "^a", "a^", "[]", "*a", "abab", "aabb", "]]]]")
	for _, pattern := range texts(`*?[]^-\ab`, 5) {
		l := pieces(pattern)
		for _, s := range all {
			if got, want := Match(pattern, s), means(l, s); got != want {
				t.Fatalf("Match(%q, %q): %v, want %v", pattern, s, got, want)
			}
		}
	}
}

// P2.1: many stars among few kinds of bytes, held against the model.
func TestMatchManyStars(t *testing.T) {
	all := texts("ab", 7)
	for _, pattern := range texts("*ab", 7) {
		l := pieces(pattern)
		for _, s := range all {
			if got, want := Match(pattern, s), means(l, s); got != want {
				t.Fatalf("Match(%q, %q): %v, want %v", pattern, s, got, want)
			}
		}
	}
}

// P2.1, P2.2: longer patterns and texts, of few bytes and of any.
func TestMatchDrawn(t *testing.T) {
	r := rand.New(rand.NewSource(2))
	yes := 0
	for range 200000 {
		pattern, s := drawn(r, `**?[]^-\abAB`, 14), drawn(r, `aaabbABAB]-\^`, 12)
		if r.Intn(4) == 0 {
			pattern, s = drawn(r, "*?[]^-\\\x80\xff\x00\xdf\xffaZ", 14), drawn(r, "", 3)
		}
		want := means(pieces(pattern), s)
		if got := Match(pattern, s); got != want {
			t.Fatalf("Match(%q, %q): %v, want %v", pattern, s, got, want)
		}
		if got, want := Fold(pattern, s), means(pieces(small(pattern)), small(s)); got != want {
			t.Fatalf("Fold(%q, %q): %v, want %v", pattern, s, got, want)
		}
		if want {
			yes++
		}
	}
	if yes < 2000 {
		t.Errorf("only %d of the drawn texts fit: the draw tells too little", yes)
	}
}

// soon fails if f has not ended within some seconds, which len(pattern) times len(s) steps need not.
func soon(t *testing.T, what string, f func() bool, want bool) {
	t.Helper()
	told := make(chan bool, 1)
	go func() { told <- f() }()
	select {
	case got := <-told:
		if got != want {
			t.Errorf("%s: %v, want %v", what, got, want)
		}
	case <-time.After(20 * time.Second):
		t.Fatalf("%s: not told within 20 seconds", what)
	}
}

// P2.1: many stars over a long text are told soon.
func TestMatchSoon(t *testing.T) {
	long := strings.Repeat("a", 20000)
	many := strings.Repeat("a*", 1000)
	for _, x := range []struct {
		name, pattern, s string
		want             bool
	}{
		{"stars and a byte that never comes", many + "b", long, false},
		{"stars and a byte that comes last", many + "b", long + "b", true},
		{"stars and a class that never fits", strings.Repeat("*[^b]", 1000) + "b", long, false},
		{"stars and question marks", strings.Repeat("*?", 1000) + "b", long, false},
		{"more question marks than bytes", strings.Repeat("*?", 20001), long, false},
		{"as many question marks as bytes", strings.Repeat("*?", 20000), long, true},
		{"stars alone", strings.Repeat("*", 20000), long, true},
		{"a long row behind a star", "*" + strings.Repeat("a", 2000) + "b", long, false},
		{"long rows between stars", strings.Repeat("*"+strings.Repeat("a", 500)+"b", 4), strings.Repeat(strings.Repeat("a", 499)+"b", 40), false},
		{"a long class behind a star", "*[" + strings.Repeat("b", 2000) + "]", long, false},
		{"long classes behind a star", "*" + strings.Repeat("["+strings.Repeat("a-b", 100)+"]", 10) + "c", long, false},
		{"stars over a text of two bytes in turn", strings.Repeat("*ab*ba", 1000) + "c", strings.Repeat("ab", 10000), false},
	} {
		soon(t, "Match, "+x.name, func() bool { return Match(x.pattern, x.s) }, x.want)
		soon(t, "Fold, "+x.name, func() bool { return Fold(strings.ToUpper(x.pattern), x.s) }, x.want)
	}
}

// P2.2: letters of either case are one, in classes too; nothing else is folded.
func TestFold(t *testing.T) {
	checkRows(t, "Fold", Fold, []row{
		{"", []string{""}, []string{"a", "A"}},
		{"H?LLO", []string{"hallo", "HALLO", "hAlLo"}, []string{"hllo", "hall"}},
		{"h*o", []string{"HELLO", "ho", "Ho"}, []string{"HELL"}},
		{"a", []string{"a", "A"}, []string{"b", "B", "", "aa"}},
		{"A", []string{"a", "A"}, []string{"b", "B", ""}},
		{"[Z]", []string{"z", "Z"}, []string{"y", "A", "["}},
		{"[z]", []string{"z", "Z"}, []string{"y"}},
		{"[^Z]", []string{"y", "A", "["}, []string{"z", "Z", ""}},
		{"[^z]", []string{"y", "A"}, []string{"z", "Z"}},
		{"[A-C]", []string{"a", "b", "c", "A", "B", "C"}, []string{"d", "D", "@", "`"}},
		{"[a-C]", []string{"a", "b", "B", "c"}, []string{"_", "Z", "z", "D", "d", "["}},
		{"[A-c]", []string{"a", "b", "B", "c"}, []string{"_", "Z", "z", "d", "["}},
		{"[Z-_]", []string{"_", "a", "M", "z", "Z"}, []string{"[", "^", "{"}},
		{"[@-Z]", []string{"@", "[", "_", "a", "Z"}, []string{"?", "{"}},
		{`\A`, []string{"a", "A"}, []string{`\a`, "b"}},
		{`[\A]`, []string{"a", "A"}, []string{`\`, "b"}},
		{`\*A`, []string{"*a", "*A"}, []string{"a", "xa"}},
		{"[]A]", nil, []string{"a]", "]"}},
		{"@", []string{"@"}, []string{"`"}},
		{"`", []string{"`"}, []string{"@"}},
		{"[[]", []string{"["}, []string{"{"}},
		{"{", []string{"{"}, []string{"["}},
		{"]^", []string{"]^"}, []string{"}~"}},
		{"\u00c9", []string{"\u00c9"}, []string{"\u00e9", "e", "E"}},
		{"\u00e9", []string{"\u00e9"}, []string{"\u00c9"}},
		{"\u212a", []string{"\u212a"}, []string{"k", "K"}},
		{"k", []string{"k", "K"}, []string{"\u212a"}},
		{"\xc1", []string{"\xc1"}, []string{"\xe1", "a", "A"}},
		{"\xff\x00", []string{"\xff\x00"}, []string{"\xff", "\xdf\x00", "\xff "}},
	})
	if Match("A", "a") || Match("a", "A") || Match("[A]", "a") || Match("[a]", "A") {
		t.Error("Match takes capital and small letters for the same")
	}
}

// P2.2: of all pairs of bytes just the letters' are one.
func TestFoldBytes(t *testing.T) {
	for _, a := range every() {
		for _, b := range every() {
			want := small(a) == small(b)
			if got := Fold(`\`+a, b); got != want {
				t.Errorf("Fold(%q, %q): %v, want %v", `\`+a, b, got, want)
			}
			if got := Fold(`[\`+a+`]`, b); got != want {
				t.Errorf("Fold(%q, %q): %v, want %v", `[\`+a+`]`, b, got, want)
			}
		}
	}
}

// P2.2: in classes, what the classes of small letters mean.
func TestFoldClasses(t *testing.T) {
	for _, x := range classes {
		l := pieces(small(x.pattern))
		for _, c := range every() {
			if got, want := Fold(x.pattern, c), means(l, small(c)); got != want {
				t.Errorf("Fold(%q, %q): %v, want %v", x.pattern, c, got, want)
			}
		}
	}
}

// P2.3: a pattern of certain bytes alone is a text; any other gives the empty text and false.
func TestPlain(t *testing.T) {
	for pattern, want := range map[string]string{
		"": "", "a": "a", "abc": "abc", "a]": "a]", "]": "]", "^": "^", "-": "-", "a-b^c]": "a-b^c]",
		`a\*b`: "a*b", `\?`: "?", `\[a]`: "[a]", `\[`: "[", `\\`: `\`, `\`: `\`, `a\`: `a\`, `\\\`: `\\`, `\a\b`: "ab", `\\a`: `\a`, `\*\?\[\\`: `*?[\`,
		"\x00\xff": "\x00\xff", "\\\xff\\\x00": "\xff\x00", "\u00e9": "\u00e9", "A b\n": "A b\n",
	} {
		if got, ok := Plain(pattern); got != want || !ok {
			t.Errorf("Plain(%q): %q %v, want %q", pattern, got, ok, want)
		}
	}
	for _, pattern := range []string{"*", "?", "[", "a*b", "a?", "a[", "[a]", "[a", "a[]", "[^]", `\\*`, `\\?`, `\\[a]`, `\**`, `\a*`, `a\b?`, "abc*", "*abc", `\[[`, "]["} {
		if got, ok := Plain(pattern); got != "" || ok {
			t.Errorf("Plain(%q): %q %v, want false and nothing", pattern, got, ok)
		}
	}
}

// P2.3: of all short patterns, and what they mean is that text alone.
func TestPlainShort(t *testing.T) {
	for _, pattern := range texts(`*?[]^-\a`, 5) {
		got, ok := Plain(pattern)
		escapes := strings.NewReplacer(`\\`, "", `\*`, "", `\?`, "", `\[`, "")
		if wantOk := !strings.ContainsAny(escapes.Replace(pattern), "*?["); ok != wantOk {
			t.Fatalf("Plain(%q): %v, want %v", pattern, ok, wantOk)
		}
		want := ""
		if ok {
			want = one(pieces(pattern))
		}
		if got != want {
			t.Fatalf("Plain(%q): %q, want %q", pattern, got, want)
		}
		if ok && (!Match(pattern, got) || Match(pattern, got+"a")) {
			t.Fatalf("Match(%q) does not mean %q alone", pattern, got)
		}
	}
}

// P2.4: a \ ahead of just these four bytes.
func TestQuote(t *testing.T) {
	for s, want := range map[string]string{
		"": "", "abc": "abc", `a*[x]\`: `a\*\[x]\\`, "*?[": `\*\?\[`, "]^-": "]^-", `\`: `\\`, `\*`: `\\\*`, `\\`: `\\\\`, "**": `\*\*`, "\u00e9?": "\u00e9\\?", "\x00\xff\n ": "\x00\xff\n ",
	} {
		if got := Quote(s); got != want {
			t.Errorf("Quote(%q): %q, want %q", s, got, want)
		}
	}
	for _, c := range every() {
		want := c
		if strings.Contains(`*?[\`, c) {
			want = `\` + c
		}
		if got := Quote("a" + c + "b"); got != "a"+want+"b" {
			t.Errorf("Quote(%q): %q, want %q", "a"+c+"b", got, "a"+want+"b")
		}
	}
}

// P2.5 (and T10): a text that is quoted means itself alone, and is read back.
func TestQuoteMeansItself(t *testing.T) {
	short := texts(`*?[]^-\a`, 3)
	for _, s := range short {
		pattern := Quote(s)
		for _, other := range short {
			if got := Match(pattern, other); got != (other == s) {
				t.Fatalf("Match(Quote(%q), %q): %v", s, other, got)
			}
		}
	}
	r := rand.New(rand.NewSource(5))
	for range 20000 {
		s := drawn(r, "", 20)
		if r.Intn(2) == 0 {
			s = drawn(r, `*?[]^-\ab`, 20)
		}
		if got, ok := Plain(Quote(s)); got != s || !ok {
			t.Fatalf("Plain(Quote(%q)): %q %v", s, got, ok)
		}
		if !Match(Quote(s), s) || Match(Quote(s), s+"a") || Match(Quote(s), "a"+s) || s != "" && Match(Quote(s), s[1:]) {
			t.Fatalf("Match(Quote(%q)) means something else", s)
		}
	}
}

// P2.6: a star between two quoted texts means beginning and end, which do not lie over each other.
func TestStarBetweenQuoted(t *testing.T) {
	ends := texts(`*[\a`, 2)
	for _, a := range ends {
		for _, b := range ends {
			for _, s := range texts(`*[\a`, 4) {
				want := strings.HasPrefix(s, a) && strings.HasSuffix(s, b) && len(s) >= len(a)+len(b)
				if got := Match(Quote(a)+"*"+Quote(b), s); got != want {
					t.Fatalf("Match(%q, %q): %v, want %v", Quote(a)+"*"+Quote(b), s, got, want)
				}
			}
		}
	}
	checkRows(t, "Match", Match, []row{
		{Quote("aba") + "*" + Quote("aba"), []string{"abaaba", "abaxaba"}, []string{"aba", "ababa"}},
		{Quote("*a") + "*" + Quote("?"), []string{"*a?", "*abc?"}, []string{"xa?", "*ab"}},
	})
}

// P2.6: n question marks mean the texts of n bytes.
func TestQuestionMarks(t *testing.T) {
	r := rand.New(rand.NewSource(6))
	for n := range 12 {
		for length := range 12 {
			for range 20 {
				b := make([]byte, length)
				r.Read(b)
				if got := Match(strings.Repeat("?", n), string(b)); got != (n == length) {
					t.Fatalf("Match of %d question marks and %q: %v", n, b, got)
				}
			}
		}
	}
}

// P2.7: a star ahead of a pattern, or behind a quoted one, takes nothing away.
func TestStarTakesNothingAway(t *testing.T) {
	all := texts("ab]-", 3)
	for _, pattern := range texts(`*?[]^-\a`, 4) {
		for _, s := range all {
			if Match(pattern, s) && !(Match("*"+pattern, s) && Match("*"+pattern, "xy"+s)) {
				t.Fatalf("Match(%q, %q), but not so with a star ahead", pattern, s)
			}
		}
	}
	for _, s := range texts(`*?[]^-\a`, 4) {
		if !Match(Quote(s)+"*", s) || !Match(Quote(s)+"*", s+"xy") || !Match("*"+Quote(s), s) {
			t.Fatalf("Match(Quote(%q)) with a star does not take it", s)
		}
	}
}
