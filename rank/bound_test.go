package rank

import (
	"fmt"
	"math"
	"strconv"
	"testing"

	"covenant/api"
)

// P12.4: Scores of bounds of every kind, spelt as people do, in the order and reverse.
func TestScores(t *testing.T) {
	r := made(t, "z -5 a 1 b 2 c 2 d 3 e 7")
	for _, c := range []struct {
		lo, hi, names, turned string
	}{
		{"-inf", "+inf", "zabcde", "edcbaz"}, {"-inf", "inf", "zabcde", "edcbaz"},
		{"+inf", "+inf", "", ""}, {"-inf", "-inf", "", ""}, {"+inf", "-inf", "", ""},
		{"-inf", "2", "zabc", "cbaz"}, {"-inf", "(2", "za", "az"}, {"2", "+inf", "bcde", "edcb"}, {"(2", "+inf", "de", "ed"},
		{"2", "2", "bc", "cb"}, {"(2", "2", "", ""}, {"2", "(2", "", ""}, {"(2", "(2", "", ""},
		{"1", "3", "abcd", "dcba"}, {"(1", "3", "bcd", "dcb"}, {"1", "(3", "abc", "cba"}, {"(1", "(3", "bc", "cb"},
		{"0", "4", "abcd", "dcba"}, {"(0", "(4", "abcd", "dcba"}, {"4", "6", "", ""}, {"(4", "(6", "", ""}, {"4", "4", "", ""},
		{"-5", "-5", "z", "z"}, {"(-5", "1", "a", "a"}, {"-6", "(-5", "", ""}, {"-4", "0", "", ""}, {"-6", "-5", "z", "z"},
		{"7", "7", "e", "e"}, {"(7", "+inf", "", ""}, {"7", "9007199254740992", "e", "e"}, {"8", "+inf", "", ""}, {"-inf", "-6", "", ""}, {"-9007199254740992", "-5", "z", "z"},
		{"3", "1", "", ""}, {"3", "2", "", ""}, {"(3", "(1", "", ""}, {"7", "-5", "", ""}, {"+inf", "2", "", ""}, {"2", "-inf", "", ""},
	} {
		lo, e := ParseScore(c.lo)
		hi, e2 := ParseScore(c.hi)
		if e != api.OK || e2 != api.OK {
			t.Fatalf("ParseScore of %s and %s: %d %d", c.lo, c.hi, e, e2)
		}
		if got := names(r.Scores(lo, hi, false, 0, -1)); got != c.names {
			t.Errorf("Scores(%s, %s): %s, not %s", c.lo, c.hi, got, c.names)
		}
		if got := names(r.Scores(lo, hi, true, 0, -1)); got != c.turned {
			t.Errorf("Scores(%s, %s, reverse): %s, not %s", c.lo, c.hi, got, c.turned)
		}
		tells(t, "Scores of none", made(t, "").Scores(lo, hi, false, 0, -1), nil)
	}
	holds(t, "behind Scores", r, listed("z -5 a 1 b 2 c 2 d 3 e 7"))
}

// P12.4: Names of bounds of every kind, whatever the scores; what is told stands in the order of scores.
func TestNames(t *testing.T) {
	r := made(t, "d -2 bb 0 a 1 b 1 c 1 _ 5 B 6")
	for _, c := range []struct {
		lo, hi, told string
	}{
		{"-", "+", "d -2 bb 0 a 1 b 1 c 1 _ 5 B 6"}, {"+", "+", ""}, {"-", "-", ""}, {"+", "-", ""},
		{"[b", "+", "d -2 bb 0 b 1 c 1"}, {"(b", "+", "d -2 bb 0 c 1"}, {"-", "[b", "a 1 b 1 _ 5 B 6"}, {"-", "(b", "a 1 _ 5 B 6"},
		{"[b", "[b", "b 1"}, {"(b", "[b", ""}, {"[b", "(b", ""}, {"(b", "(b", ""},
		{"[b", "(c", "bb 0 b 1"}, {"(b", "[c", "bb 0 c 1"}, {"(b", "(c", "bb 0"}, {"[b", "[c", "bb 0 b 1 c 1"},
		{"[", "[", "_ 5"}, {"(", "+", "d -2 bb 0 a 1 b 1 c 1 B 6"}, {"-", "(", ""}, {"-", "[", "_ 5"}, {"[", "+", "d -2 bb 0 a 1 b 1 c 1 _ 5 B 6"},
		{"[ba", "[bz", "bb 0"}, {"[b\x00", "[bb", "bb 0"}, {"[A", "[Z", "B 6"}, {"[aa", "[az", ""}, {"(d", "+", ""}, {"[d", "+", "d -2"}, {"[d\x00", "+", ""},
		{"[c", "[a", ""}, {"+", "[b", ""}, {"[b", "-", ""}, {"(c", "(a", ""}, {"[\xff", "+", ""}, {"-", "[\xff", "d -2 bb 0 a 1 b 1 c 1 _ 5 B 6"},
	} {
		lo, e := ParseName(c.lo)
		hi, e2 := ParseName(c.hi)
		if e != api.OK || e2 != api.OK {
			t.Fatalf("ParseName of %q and %q: %d %d", c.lo, c.hi, e, e2)
		}
		what := fmt.Sprintf("Names(%q, %q)", c.lo, c.hi)
		tells(t, what, r.Names(lo, hi, false, 0, -1), listed(c.told))
		tells(t, what+" reverse", r.Names(lo, hi, true, 0, -1), turned(listed(c.told)))
		tells(t, what+" of none", made(t, "").Names(lo, hi, false, 0, -1), nil)
	}
	holds(t, "behind Names", r, listed("d -2 bb 0 a 1 b 1 c 1 _ 5 B 6"))
}

// turned is a list turned round, in memory of its own.
func turned(l []api.Scored) []api.Scored {
	var out []api.Scored
	for i := range l {
		out = append(out, l[len(l)-1-i])
	}
	return out
}

// P12.4: skip and most below 0, 0, within and beyond, of an interval that is neither all nor none.
func TestSkipAndMost(t *testing.T) {
	const least, greatest = math.MinInt, math.MaxInt
	r := made(t, "a 1 b 2 c 3 d 4 e 5 f 6")
	for _, c := range []struct {
		skip, most    int
		names, turned string
	}{
		{0, -1, "bcde", "edcb"}, {0, least, "bcde", "edcb"}, {-1, -1, "bcde", "edcb"}, {least, least, "bcde", "edcb"}, {0, greatest, "bcde", "edcb"},
		{0, 0, "", ""}, {-3, 0, "", ""}, {2, 0, "", ""}, {9, 0, "", ""}, {greatest, 0, "", ""},
		{0, 1, "b", "e"}, {-1, 1, "b", "e"}, {least, 2, "bc", "ed"}, {0, 3, "bcd", "edc"}, {0, 4, "bcde", "edcb"}, {0, 5, "bcde", "edcb"},
		{1, -1, "cde", "dcb"}, {1, 1, "c", "d"}, {1, 2, "cd", "dc"}, {1, 3, "cde", "dcb"}, {1, 4, "cde", "dcb"}, {1, greatest, "cde", "dcb"},
		{3, -7, "e", "b"}, {3, 1, "e", "b"}, {3, 2, "e", "b"}, {3, greatest, "e", "b"},
		{4, -1, "", ""}, {4, 1, "", ""}, {5, 5, "", ""}, {greatest, -1, "", ""}, {greatest, 1, "", ""}, {greatest, greatest, "", ""},
	} {
		for _, asked := range []struct {
			what string
			ask  func(reverse bool) []api.Scored
		}{
			{"Scores", func(reverse bool) []api.Scored {
				return r.Scores(api.Bound{Score: 2}, api.Bound{Score: 6, Open: true}, reverse, c.skip, c.most)
			}},
			{"Names", func(reverse bool) []api.Scored {
				return r.Names(api.Bound{Name: "a", Open: true}, api.Bound{Name: "e"}, reverse, c.skip, c.most)
			}},
		} {
			if got := names(asked.ask(false)); got != c.names {
				t.Errorf("%s by %d, %d: %s, not %s", asked.what, c.skip, c.most, got, c.names)
			}
			if got := names(asked.ask(true)); got != c.turned {
				t.Errorf("%s reverse by %d, %d: %s, not %s", asked.what, c.skip, c.most, got, c.turned)
			}
		}
	}
}

// Words: any Inf below 0 is below all, any above 0 above all, and what it leaves without meaning is not looked at.
func TestInf(t *testing.T) {
	const least, greatest = math.MinInt, math.MaxInt
	r := of(t, []api.Scored{{Name: "", Score: -top}, {Name: "a", Score: 0}, {Name: "b", Score: top}})
	for _, size := range []int{1, 2, 7, greatest} {
		for _, open := range []bool{false, true} {
			for _, score := range []int{least, -top, 0, top, greatest} {
				for _, name := range []string{"", "a", "\xff"} {
					below := api.Bound{Inf: -size, Open: open, Score: score, Name: name}
					above := api.Bound{Inf: size, Open: open, Score: score, Name: name}
					for _, ask := range []func(lo, hi api.Bound, reverse bool, skip, most int) []api.Scored{r.Scores, r.Names} {
						tells(t, "from below all to above all", ask(below, above, false, 0, -1), r.List())
						tells(t, "from above all", ask(above, above, false, 0, -1), nil)
						tells(t, "to below all", ask(below, below, false, 0, -1), nil)
						tells(t, "turned round", ask(above, below, false, 0, -1), nil)
					}
				}
			}
		}
	}
	tells(t, "the least Inf", r.Scores(api.Bound{Inf: least}, api.Bound{Inf: greatest}, false, 0, -1), r.List())
	tells(t, "to the least Inf", r.Scores(api.Bound{Inf: least}, api.Bound{Inf: least}, false, 0, -1), nil)
	tells(t, "the least Inf", r.Names(api.Bound{Inf: least}, api.Bound{Inf: greatest}, false, 0, -1), r.List())
	tells(t, "to the least Inf", r.Names(api.Bound{Inf: least}, api.Bound{Inf: least}, false, 0, -1), nil)
}

// Words: a bound's Score may be any number, a score or not; Scores does not look at Name, nor Names at Score.
func TestBoundsBeyond(t *testing.T) {
	const least, greatest = math.MinInt, math.MaxInt
	r := of(t, []api.Scored{{Name: "a", Score: -top}, {Name: "b", Score: 0}, {Name: "c", Score: top}})
	for _, c := range []struct {
		lo, hi int
		open   bool
		names  string
	}{
		{least, greatest, false, "abc"}, {least, greatest, true, "abc"}, {-top - 1, top + 1, true, "abc"}, {-top, top, false, "abc"}, {-top, top, true, "b"},
		{-top + 1, top - 1, false, "b"}, {top + 1, greatest, false, ""}, {least, -top - 1, false, ""}, {greatest, greatest, false, ""}, {least, least, false, ""},
		{greatest, least, false, ""}, {top, greatest, false, "c"}, {least, -top, false, "a"}, {top, greatest, true, ""}, {least, -top, true, ""},
	} {
		for _, name := range []string{"", "b", "\xff"} {
			lo, hi := api.Bound{Score: c.lo, Open: c.open, Name: name}, api.Bound{Score: c.hi, Open: c.open, Name: name + "x"}
			if got := names(r.Scores(lo, hi, false, 0, -1)); got != c.names {
				t.Errorf("Scores from %d to %d, open %t: %s, not %s", c.lo, c.hi, c.open, got, c.names)
			}
		}
		lo, hi := api.Bound{Score: c.lo, Name: "b"}, api.Bound{Score: c.hi, Name: "b"}
		if got := names(r.Names(lo, hi, false, 0, -1)); got != "b" {
			t.Errorf("Names with scores %d and %d: %s", c.lo, c.hi, got)
		}
	}
}

// P12.6: ParseScore of what is a bound.
func TestParseScore(t *testing.T) {
	for s, want := range map[string]api.Bound{
		"-inf": {Inf: -1}, "+inf": {Inf: 1}, "inf": {Inf: 1},
		"0": {}, "5": {Score: 5}, "-5": {Score: -5}, "10": {Score: 10}, "100200300": {Score: 100200300},
		"9007199254740992": {Score: top}, "-9007199254740992": {Score: -top}, "9007199254740991": {Score: top - 1},
		"(0": {Open: true}, "(5": {Open: true, Score: 5}, "(-5": {Open: true, Score: -5},
		"(9007199254740992": {Open: true, Score: top}, "(-9007199254740992": {Open: true, Score: -top},
	} {
		if b, e := ParseScore(s); b != want || e != api.OK {
			t.Errorf("ParseScore(%q): %+v %d", s, b, e)
		}
	}
}

// P12.6: ParseScore of what is none, and of what is nearly one.
func TestParseScoreRefuses(t *testing.T) {
	for _, s := range []string{
		"", " ", "(", "((", "()", "((5", "(5)", "5(", "[", "[5", "[0", "]", "-", "+", "--", "(-", "(+",
		"(inf", "(-inf", "(+inf", "[inf", "--inf", "++inf", "-+inf", "Inf", "INF", "-Inf", "+INF", "infinity", "-infinity", "in", "-in", "inf ", " inf", "-inf ", "inf\x00", "\x00inf", "inff", "iinf", "+ inf", "- inf", "nan",
		"05", "00", "-0", "-05", "(05", "(-0", "+5", "(+5", "+0", "5 ", " 5", "( 5", "(5 ", "5.0", "5.", ".5", "1e3", "0x5", "1_000", "5a", "a", "a5", "--5", "5-", "5\x00", "\x005", "\xff",
		"9007199254740993", "-9007199254740993", "(9007199254740993", "(-9007199254740993", "9223372036854775807", "-9223372036854775808", "(9223372036854775807",
		"9223372036854775808", "-9223372036854775809", "18446744073709551616", "18446744073709551621", "99999999999999999999999999", "(99999999999999999999999999", "\xd9\xa5",
	} {
		if b, e := ParseScore(s); b != (api.Bound{}) || e != api.ErrBound {
			t.Errorf("ParseScore(%q): %+v %d, not ErrBound", s, b, e)
		}
	}
}

// P12.6: ParseName of what is a bound.
func TestParseName(t *testing.T) {
	for s, want := range map[string]api.Bound{
		"-": {Inf: -1}, "+": {Inf: 1},
		"[": {}, "(": {Open: true}, "[a": {Name: "a"}, "(a": {Open: true, Name: "a"},
		"[[": {Name: "["}, "[(": {Name: "("}, "((": {Open: true, Name: "("}, "([": {Open: true, Name: "["},
		"[-": {Name: "-"}, "[+": {Name: "+"}, "(-": {Open: true, Name: "-"}, "(+": {Open: true, Name: "+"}, "[ ": {Name: " "}, "[a b": {Name: "a b"},
		"[5": {Name: "5"}, "(inf": {Open: true, Name: "inf"}, "[a]": {Name: "a]"}, "(a)": {Open: true, Name: "a)"}, "[\x00": {Name: "\x00"}, "(\xff\xfe\r\n": {Open: true, Name: "\xff\xfe\r\n"}, "[\xc3\xa4": {Name: "\xc3\xa4"},
	} {
		if b, e := ParseName(s); b != want || e != api.OK {
			t.Errorf("ParseName(%q): %+v %d", s, b, e)
		}
	}
}

// P12.6: ParseName of what is none, of each byte ahead of a text, and of what is nearly one.
func TestParseNameRefuses(t *testing.T) {
	refused := []string{"", "a", "a[", "a(", " [a", "--", "++", "-+", "+-", "-a", "+a", "- ", " -", " +", "-inf", "+inf", "inf", "-[", "+[", "-(", "+(", "-\x00", "+\x00", "\x00-"}
	for c := range 256 {
		s := string([]byte{byte(c)})
		if s == "[" || s == "(" {
			continue
		}
		refused = append(refused, s+"a", s+"[", s+"(a")
		if s != "-" && s != "+" {
			refused = append(refused, s)
		}
	}
	for _, s := range refused {
		if b, e := ParseName(s); b != (api.Bound{}) || e != api.ErrBound {
			t.Errorf("ParseName(%q): %+v %d, not ErrBound", s, b, e)
		}
	}
}

// P12.6: what is written of any score, and of any name, is read as it was.
func TestThereAndBack(t *testing.T) {
	for _, around := range []int{0, 1 << 20, top, -top, math.MaxInt - 20, math.MinInt + 20} {
		for i := around - 20; i < around+20; i++ {
			want, errno := api.Bound{Score: i}, api.OK
			if i < -top || i > top {
				want, errno = api.Bound{}, api.ErrBound
			}
			if b, e := ParseScore(strconv.Itoa(i)); b != want || e != errno {
				t.Errorf("ParseScore of %d: %+v %d", i, b, e)
			}
			want.Open = errno == api.OK
			if b, e := ParseScore("(" + strconv.Itoa(i)); b != want || e != errno {
				t.Errorf("ParseScore of ( and %d: %+v %d", i, b, e)
			}
		}
	}
	for c := range 256 {
		name := string([]byte{byte(c)})
		if b, e := ParseName("[" + name); b != (api.Bound{Name: name}) || e != api.OK {
			t.Errorf("ParseName of [ and %q: %+v %d", name, b, e)
		}
		if b, e := ParseName("(" + name); b != (api.Bound{Open: true, Name: name}) || e != api.OK {
			t.Errorf("ParseName of ( and %q: %+v %d", name, b, e)
		}
	}
}
