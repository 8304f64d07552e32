package strcmd

import (
	"strings"
	"testing"

	"covenant/api"
	"covenant/resp"
)

// P17.3: SET without options puts afresh, whatever was there.
func TestSet(t *testing.T) {
	check(t, 10, []row{
		{"set q x", "OK", `put q "x" 0`},
		{"set s x", "OK", `put s "x" 0`},
		{"set s ''", "OK", `put s "" 0`},
		{"set '' x", "OK", `put  "x" 0`},
		{"set late x", "OK", `put late "x" 0`},
		{"set over x", "OK", `put over "x" 0`},
		{"set list x", "OK", `put list "x" 0`},
		{"set led x", "OK", `put led "x" 0`},
		{"set s hello", "OK", `put s "hello" 0`},
		{"set s \x00\xff\r\n", "OK", `put s "\x00\xff\r\n" 0`},
		// The words in an option's place alone are options.
		{"set ex nx", "OK", `put ex "nx" 0`},
		{"set get get", "OK", `put get "get" 0`},
	})
}

// P17.3: NX lets an absent key alone be set, XX one that is there, of any kind.
func TestSetUnless(t *testing.T) {
	check(t, 10, []row{
		{"set q x nx", "OK", `put q "x" 0`},
		{"set over x nx", "OK", `put over "x" 0`},
		{"set lost x nx", "OK", `put lost "x" 0`},
		{"set s x nx", "(nil)", ""},
		{"set soon x nx", "(nil)", ""},
		{"set e x nx", "(nil)", ""},
		{"set list x nx", "(nil)", ""},
		{"set led x nx", "(nil)", ""},
		{"set q x xx", "(nil)", ""},
		{"set over x xx", "(nil)", ""},
		{"set lost x xx", "(nil)", ""},
		{"set s x xx", "OK", `put s "x" 0`},
		{"set e x xx", "OK", `put e "x" 0`},
		{"set late x xx", "OK", `put late "x" 0`},
		{"set list x xx", "OK", `put list "x" 0`},
		{"set led x xx", "OK", `put led "x" 0`},
		{"set q x xx ex 5", "(nil)", ""},
		{"set s x nx px 5", "(nil)", ""},
		{"set s x nx keepttl", "(nil)", ""},
	})
}

// P17.3: GET tells the string that was there, whether v is put or not, and looks at the kind.
func TestSetGet(t *testing.T) {
	check(t, 10, []row{
		{"set s x get", `"hello"`, `put s "x" 0`},
		{"set e x get", `""`, `put e "x" 0`},
		{"set late x get", `"hi"`, `put late "x" 0`},
		{"set q x get", "(nil)", `put q "x" 0`},
		{"set over x get", "(nil)", `put over "x" 0`},
		{"set lost x get", "(nil)", `put lost "x" 0`},
		{"set s x get nx", `"hello"`, ""},
		{"set e x nx get", `""`, ""},
		{"set q x nx get", "(nil)", `put q "x" 0`},
		{"set q x get xx", "(nil)", ""},
		{"set over x xx get", "(nil)", ""},
		{"set s x xx get", `"hello"`, `put s "x" 0`},
		{"set late x get keepttl", `"hi"`, `put late "x" 1000`},
		{"set late x get px 5", `"hi"`, `put late "x" 15`},
		{"set late x get px 5 nx", `"hi"`, ""},
	})
	for _, key := range []string{"list", "hash", "sets", "rank", "led"} {
		fails(t, 10, api.TextWrong, "set "+key+" x get", "set "+key+" x get nx", "set "+key+" x xx get", "set "+key+" x keepttl get", "set "+key+" x get ex 5")
	}
}

// P17.3: each time gives its deadline; KEEPTTL keeps the one that is there; without either there is none.
func TestSetLife(t *testing.T) {
	check(t, 10, []row{
		{"set s x ex 1", "OK", `put s "x" 1010`},
		{"set s x ex 5", "OK", `put s "x" 5010`},
		{"set s x px 1", "OK", `put s "x" 11`},
		{"set s x px 5", "OK", `put s "x" 15`},
		{"set s x exat 1", "OK", `put s "x" 1000`},
		{"set s x exat 5", "OK", `put s "x" 5000`},
		{"set s x pxat 1", "OK", `put s "x" 1`},
		{"set s x pxat 10", "OK", `put s "x" 10`},
		{"set s x pxat 11", "OK", `put s "x" 11`},
		{"set late x px 5", "OK", `put late "x" 15`},
		{"set list x px 5", "OK", `put list "x" 15`},
		{"set q x px 5", "OK", `put q "x" 15`},
		{"set q x px 5 nx", "OK", `put q "x" 15`},
		{"set q x nx px 5", "OK", `put q "x" 15`},
		{"set s x keepttl", "OK", `put s "x" 0`},
		{"set late x keepttl", "OK", `put late "x" 1000`},
		{"set soon x keepttl", "OK", `put soon "x" 11`},
		{"set over x keepttl", "OK", `put over "x" 0`},
		{"set q x keepttl", "OK", `put q "x" 0`},
		{"set list x keepttl", "OK", `put list "x" 0`},
		{"set led x keepttl", "OK", `put led "x" 700`},
		{"set late x keepttl xx", "OK", `put late "x" 1000`},
	})
}

// lapses is pairs of a time as SET and GETEX take it, at a now, and the deadline; 0 where it may not be.
func lapses() []struct {
	now  int
	time string
	due  int
} {
	return []struct {
		now  int
		time string
		due  int
	}{
		{0, "ex 1", 1000},
		{0, "ex 9007199254740", 9007199254740000},
		{0, "ex 9007199254741", 0},
		{992, "ex 9007199254740", 9007199254740992},
		{993, "ex 9007199254740", 0},
		{0, "ex 9223372036854775807", 0},
		{0, "ex 9223372036854776", 0},
		{0, "ex 18446744073709552", 0},
		{0, "px 9007199254740992", top},
		{0, "px 9007199254740993", 0},
		{1, "px 9007199254740991", top},
		{1, "px 9007199254740992", 0},
		{0, "px 9223372036854775807", 0},
		{9, "px 9223372036854775807", 0},
		{0, "exat 9007199254740", 9007199254740000},
		{0, "exat 9007199254741", 0},
		{5, "exat 9007199254740", 9007199254740000},
		{0, "exat 9223372036854775807", 0},
		{0, "pxat 9007199254740992", top},
		{9, "pxat 9007199254740992", top},
		{0, "pxat 9007199254740993", 0},
		{0, "pxat 9223372036854775807", 0},
		{top, "exat 1", 1000},
		{top, "pxat 1", 1},
		{top, "px 1", 0},
		{top, "ex 1", 0},
		{top - 1, "px 1", top},
		{top - 1, "px 2", 0},
		{top - 1000, "ex 1", top},
		{top - 999, "ex 1", 0},
		{top + 1, "px 1", 0},
		{1<<63 - 1, "px 1", 0},
		{1<<63 - 1, "pxat 7", 7},
		{-1, "px 5", 5},
		{-1, "ex 5", 5000},
		{-1 << 63, "px 5", 5},
		{-1 << 63, "ex 5", 5000},
		{-1 << 63, "px 9007199254740992", top},
		{-1 << 63, "px 9007199254740993", 0},
		{-1 << 63, "pxat 5", 5},
		{10, "ex 0", 0},
		{10, "px 0", 0},
		{10, "exat 0", 0},
		{10, "pxat 0", 0},
		{10, "ex -1", 0},
		{10, "px -1", 0},
		{10, "px -5", 0},
		{10, "exat -1", 0},
		{10, "pxat -1", 0},
		{10, "ex -9223372036854775808", 0},
		{10, "px -9223372036854775808", 0},
		{10, "exat -9223372036854775808", 0},
		{10, "pxat -9223372036854775808", 0},
	}
}

// A time is counted from now, which lies from 0 to MaxTick, or from 0 on; below 1 and above MaxTick it may not be.
func TestTimes(t *testing.T) {
	text := "(error) " + api.TextDeadline
	for _, x := range lapses() {
		given := resp.Show(api.Reply{Kind: api.ReplyInt, N: x.due})[len("(integer) "):]
		set, due := row{"set s x " + x.time, "OK", `put s "x" ` + given}, row{"getex s " + x.time, `"hello"`, "due s " + given}
		if x.due == 0 {
			set.reply, set.changes, due.reply, due.changes = text, "", text, ""
		}
		check(t, x.now, []row{set, due})
		name, n, _ := strings.Cut(x.time, " ")
		if command := map[string]string{"ex": "setex", "px": "psetex"}[name]; command != "" {
			set.line = command + " s " + n + " x"
			check(t, x.now, []row{set})
		}
	}
}

// P17.3: the options' names count without regard to capital letters.
func TestSetLetters(t *testing.T) {
	check(t, 10, []row{
		{"set q x NX", "OK", `put q "x" 0`},
		{"set q x Xx", "(nil)", ""},
		{"set s x GET", `"hello"`, `put s "x" 0`},
		{"set late x KeepTTL", "OK", `put late "x" 1000`},
		{"set s x EX 5", "OK", `put s "x" 5010`},
		{"set s x Px 5", "OK", `put s "x" 15`},
		{"set s x EXAT 5", "OK", `put s "x" 5000`},
		{"set s x pXaT 5", "OK", `put s "x" 5`},
		{"SET s X xX geT eX 5", `"hello"`, `put s "X" 5010`},
	})
}

// options is each option of SET, in the order of its group, with its number where it takes one.
func options() [][]string {
	return [][]string{{"nx", "xx"}, {"get"}, {"ex 5", "px 5", "exat 5", "pxat 5", "keepttl"}}
}

// P17.3: of each group at most one stands there, in any order; any two of one group are one too many.
func TestSetPairs(t *testing.T) {
	for i, one := range options() {
		for _, a := range one {
			for j, other := range options() {
				for _, b := range other {
					for _, key := range []string{"q", "late", "list"} {
						line := "set " + key + " x " + a + " " + b
						if i == j {
							fails(t, 10, api.TextSyntax, line, strings.ToUpper(line), "set "+key+" x "+a+" "+strings.ToUpper(b))
							continue
						}
						r, _, changes := done(begin(), 10, words(line))
						turned, _, also := done(begin(), 10, words("set "+key+" x "+strings.ToUpper(b)+" "+a))
						if r.Text == api.TextSyntax || resp.Show(r) != resp.Show(turned) || changes != also {
							t.Errorf("%q: %s, %s; turned: %s, %s", line, resp.Show(r), changes, resp.Show(turned), also)
						}
					}
				}
			}
		}
	}
}

// P17.3: three options in any order; a fourth one is one too many.
func TestSetThree(t *testing.T) {
	for _, order := range [][3]string{{"xx", "get", "px 5"}, {"xx", "px 5", "get"}, {"get", "xx", "px 5"}, {"get", "px 5", "xx"}, {"px 5", "xx", "get"}, {"px 5", "get", "xx"}} {
		line := "set late x " + strings.Join(order[:], " ")
		check(t, 10, []row{{line, `"hi"`, `put late "x" 15`}})
		fails(t, 10, api.TextSyntax, line+" nx", line+" xx", line+" get", line+" px 5", line+" keepttl", line+" ex 1", line+" foo", line+" ''")
	}
}

// P17.3: a word that is no option, or one that lacks its number, is TextSyntax.
func TestSetSyntax(t *testing.T) {
	for _, key := range []string{"s", "q", "list"} {
		fails(t, 10, api.TextSyntax,
			"set "+key+" x foo", "set "+key+" x ''", "set "+key+" x 5", "set "+key+" x persist", "set "+key+" x ttl", "set "+key+" x n", "set "+key+" x nxx",
			"set "+key+" x ex", "set "+key+" x px", "set "+key+" x exat", "set "+key+" x pxat", "set "+key+" x get ex", "set "+key+" x ex 5 px",
			"set "+key+" x ex 5 6", "set "+key+" x keepttl 5", "set "+key+" x nx 5", "set "+key+" x get x", "set "+key+" x keepttl ex", "set "+key+" x nx foo nx")
	}
	for _, option := range []string{"ex", "px", "exat", "pxat"} {
		for _, n := range []string{"x", "''", "+5", "05", "-0", "5.0", "5x", "nx", "ex", "get", "9223372036854775808", "-9223372036854775809"} {
			fails(t, 10, api.TextNumber, "set s x "+option+" "+n, "set q x "+option+" "+n, "set list x get "+option+" "+n, "getex s "+option+" "+n, "getex list "+option+" "+n)
		}
	}
}

// P17.3: what is wrong is told at the first word from the left.
func TestSetFromTheLeft(t *testing.T) {
	fails(t, 10, api.TextNumber, "set s x ex x foo", "set s x ex x nx xx", "set s x ex x ex", "set s x nx ex x xx", "set s x ex x ex 0")
	fails(t, 10, api.TextDeadline, "set s x ex 0 foo", "set s x px 0 px x", "set s x ex 0 ex", "set s x ex 9223372036854775807 nx nx", "set list x get ex 0", "set s x nx ex 0", "set q x xx ex 0")
	fails(t, 10, api.TextSyntax, "set s x foo ex x", "set s x nx xx ex x", "set s x ex 5 ex x", "set s x keepttl ex 0", "set s x ex 5 px 0", "set list x get get", "set s x nx foo")
}

// P17.4: GETSET puts afresh and tells the string that was there.
func TestGetAndSet(t *testing.T) {
	check(t, 10, []row{
		{"getset s x", `"hello"`, `put s "x" 0`},
		{"getset late x", `"hi"`, `put late "x" 0`},
		{"getset e x", `""`, `put e "x" 0`},
		{"getset q x", "(nil)", `put q "x" 0`},
		{"getset over x", "(nil)", `put over "x" 0`},
		{"getset lost x", "(nil)", `put lost "x" 0`},
		{"getset s ''", `"hello"`, `put s "" 0`},
	})
	fails(t, 10, api.TextWrong, "getset list x", "getset hash x", "getset sets x", "getset rank x", "getset led x")
}

// P17.4: GETDEL drops a key that is there, and tells the string that was there; one that is over is not seen.
func TestGetAndDrop(t *testing.T) {
	check(t, 10, []row{
		{"getdel s", `"hello"`, "drop s"},
		{"getdel late", `"hi"`, "drop late"},
		{"getdel e", `""`, "drop e"},
		{"getdel q", "(nil)", ""},
		{"getdel over", "(nil)", ""},
		{"getdel past", "(nil)", ""},
		{"getdel lost", "(nil)", ""},
	})
	fails(t, 10, api.TextWrong, "getdel list", "getdel hash", "getdel sets", "getdel rank", "getdel led")
}

// P17.4: GETEX tells the string and gives another deadline, none with PERSIST, or leaves all as it is.
func TestGetAndSetDue(t *testing.T) {
	check(t, 10, []row{
		{"getex s", `"hello"`, ""},
		{"getex late", `"hi"`, ""},
		{"getex q", "(nil)", ""},
		{"getex over", "(nil)", ""},
		{"getex s ex 5", `"hello"`, "due s 5010"},
		{"getex s px 5", `"hello"`, "due s 15"},
		{"getex s exat 5", `"hello"`, "due s 5000"},
		{"getex s pxat 5", `"hello"`, "due s 5"},
		{"getex s pxat 10", `"hello"`, "due s 10"},
		{"getex s PX 5", `"hello"`, "due s 15"},
		{"getex s ExAt 5", `"hello"`, "due s 5000"},
		{"getex e px 5", `""`, "due e 15"},
		{"getex late px 5", `"hi"`, "due late 15"},
		{"getex late px 990", `"hi"`, "due late 1000"}, // the same one again is a touch
		{"getex late pxat 1000", `"hi"`, "due late 1000"},
		{"getex late persist", `"hi"`, "due late 0"},
		{"getex late PERSIST", `"hi"`, "due late 0"},
		{"getex s persist", `"hello"`, ""},
		{"getex q persist", "(nil)", ""},
		{"getex q px 5", "(nil)", ""},
		{"getex over persist", "(nil)", ""},
		{"getex over px 5", "(nil)", ""},
		{"getex lost px 5", "(nil)", ""},
	})
	for _, behind := range []string{"", " px 5", " persist"} {
		fails(t, 10, api.TextWrong, "getex list"+behind, "getex hash"+behind, "getex sets"+behind, "getex rank"+behind, "getex led"+behind)
	}
}

// P17.4: other words behind GETEX, or another number of them, are TextSyntax, ahead of all else.
func TestGetAndSetDueSyntax(t *testing.T) {
	for _, key := range []string{"s", "late", "q", "list"} {
		for _, behind := range []string{
			"foo", "''", "5", "ex", "px", "exat", "pxat", "keepttl", "get", "nx",
			"foo 5", "'' 5", "5 ex", "5 5", "persist 5", "persist persist", "keepttl 5", "get 5", "persist ex", "foo x",
			"ex 5 6", "ex 5 ex", "ex x x", "ex 0 0", "ex 5 persist", "persist ex 5", "persist persist persist", "ex x persist",
			"ex 5 ex 5", "ex 5 px 5", "ex x ex x", "ex 0 px 0", "persist ex 5 foo", "ex 5 px 5 persist",
		} {
			fails(t, 10, api.TextSyntax, "getex "+key+" "+behind, "GETEX "+key+" "+strings.ToUpper(behind))
		}
	}
	fails(t, 10, api.TextDeadline, "getex s ex 0", "getex q px 0", "getex list exat 0", "getex s pxat 9007199254740993")
	fails(t, 10, api.TextNumber, "getex s ex persist", "getex s ex ex", "getex q px x")
}

// P17.4: SETNX sets an absent key alone; a key of any kind is there.
func TestSetNew(t *testing.T) {
	check(t, 10, []row{
		{"setnx q x", "(integer) 1", `put q "x" 0`},
		{"setnx q ''", "(integer) 1", `put q "" 0`},
		{"setnx over x", "(integer) 1", `put over "x" 0`},
		{"setnx lost x", "(integer) 1", `put lost "x" 0`},
		{"setnx s x", "(integer) 0", ""},
		{"setnx e x", "(integer) 0", ""},
		{"setnx late x", "(integer) 0", ""},
		{"setnx list x", "(integer) 0", ""},
		{"setnx hash x", "(integer) 0", ""},
		{"setnx sets x", "(integer) 0", ""},
		{"setnx rank x", "(integer) 0", ""},
		{"setnx led x", "(integer) 0", ""},
	})
}

// P17.4: SETEX and PSETEX put with their deadline, whatever was there.
func TestSetFor(t *testing.T) {
	check(t, 10, []row{
		{"setex s 5 x", "OK", `put s "x" 5010`},
		{"psetex s 5 x", "OK", `put s "x" 15`},
		{"setex s 1 ''", "OK", `put s "" 1010`},
		{"psetex s 1 ''", "OK", `put s "" 11`},
		{"setex late 5 x", "OK", `put late "x" 5010`},
		{"psetex late 5 x", "OK", `put late "x" 15`},
		{"psetex late 990 hi", "OK", `put late "hi" 1000`},
		{"setex list 5 x", "OK", `put list "x" 5010`},
		{"psetex led 5 x", "OK", `put led "x" 15`},
		{"setex q 5 x", "OK", `put q "x" 5010`},
		{"psetex over 5 x", "OK", `put over "x" 15`},
	})
	for _, name := range []string{"setex ", "psetex "} {
		fails(t, 10, api.TextNumber, name+"s x x", name+"s '' x", name+"q 05 x", name+"list +1 x", name+"s 9223372036854775808 x", name+"s ex 5")
		fails(t, 10, api.TextDeadline, name+"s 0 x", name+"s -1 x", name+"q 0 x", name+"list 0 x", name+"s 9223372036854775807 x", name+"s -9223372036854775808 x")
	}
}

// P17.5: MSET puts each of its texts afresh, from the left, whatever was there.
func TestSetSeveral(t *testing.T) {
	check(t, 10, []row{
		{"mset q x", "OK", `put q "x" 0`},
		{"mset q x s y", "OK", `put q "x" 0, put s "y" 0`},
		{"mset z 1 y 2 x 3", "OK", `put z "1" 0, put y "2" 0, put x "3" 0`},
		{"mset late x over y list z lost w", "OK", `put late "x" 0, put over "y" 0, put list "z" 0, put lost "w" 0`},
		{"mset q x q y", "OK", `put q "x" 0, put q "y" 0`},
		{"mset s x q 1 s x", "OK", `put s "x" 0, put q "1" 0, put s "x" 0`},
		{"mset q ''", "OK", `put q "" 0`},
		{"mset '' ''", "OK", `put  "" 0`},
	})
	fails(t, 10, api.TextArity+"mset", "mset q x s", "mset q x s y z", "MSET list x q", "Mset q x q x q x q")
}

// P17.5: MSETNX puts all or none: none, if one of its keys is there.
func TestSetSeveralNew(t *testing.T) {
	check(t, 10, []row{
		{"msetnx q x", "(integer) 1", `put q "x" 0`},
		{"msetnx q x r y", "(integer) 1", `put q "x" 0, put r "y" 0`},
		{"msetnx q x q y", "(integer) 1", `put q "x" 0, put q "y" 0`},
		{"msetnx over x lost y", "(integer) 1", `put over "x" 0, put lost "y" 0`},
		{"msetnx s x", "(integer) 0", ""},
		{"msetnx s x q y", "(integer) 0", ""},
		{"msetnx q x s y", "(integer) 0", ""},
		{"msetnx q x s y r z", "(integer) 0", ""},
		{"msetnx q x late y", "(integer) 0", ""},
		{"msetnx q x e y", "(integer) 0", ""},
		{"msetnx q x list y", "(integer) 0", ""},
		{"msetnx hash y q x", "(integer) 0", ""},
		{"msetnx q x led y", "(integer) 0", ""},
		{"msetnx q s", "(integer) 1", `put q "s" 0`},
	})
	fails(t, 10, api.TextArity+"msetnx", "msetnx q x r", "msetnx s x q", "MSETNX q x r y z", "msetnx list x q")
}

// P17.5: behind MSET of one key twice the last text is there, and both puts were touches.
func TestSetSeveralTwice(t *testing.T) {
	s := begin()
	was := s.Counter()
	Run(s, 10, words("mset q 1 s 2 q 3"))
	if r, _ := Run(s, 10, words("mget q s")); resp.Show(r) != `["3", "2"]` {
		t.Errorf("mget: %s", resp.Show(r))
	}
	if s.Counter() != was+3 || s.Version("q") != was+3 || s.Version("s") != was+2 {
		t.Errorf("counter %d from %d, versions %d, %d", s.Counter(), was, s.Version("q"), s.Version("s"))
	}
}
