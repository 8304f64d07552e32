package strcmd

import (
	"strings"
	"testing"

	"covenant/api"
)

// P17.8: GETBIT tells the bit at a place, 0 behind the end.
func TestGetBit(t *testing.T) {
	check(t, 10, []row{
		{"getbit s 0", "(integer) 0", ""},
		{"getbit s 1", "(integer) 1", ""}, // h is 01101000
		{"getbit s 7", "(integer) 0", ""},
		{"getbit s 8", "(integer) 0", ""},
		{"getbit s 9", "(integer) 1", ""}, // e is 01100101
		{"getbit s 15", "(integer) 1", ""},
		{"getbit s 39", "(integer) 1", ""},
		{"getbit s 40", "(integer) 0", ""},
		{"getbit ones 15", "(integer) 1", ""},
		{"getbit ones 16", "(integer) 0", ""},
		{"getbit bits 16", "(integer) 1", ""},
		{"getbit ones 8388607", "(integer) 0", ""},
		{"getbit e 0", "(integer) 0", ""},
		{"getbit q 0", "(integer) 0", ""},
		{"getbit over 1", "(integer) 0", ""},
	})
	fails(t, 10, api.TextOffset, "getbit s -1", "getbit s 8388608", "getbit q -1", "getbit q 8388608", "getbit list -1", "getbit list 8388608", "getbit s 9223372036854775807", "getbit s -9223372036854775808")
	fails(t, 10, api.TextNumber, "getbit s x", "getbit s ''", "getbit s 01", "getbit q x", "getbit list x", "getbit s 9223372036854775808")
	fails(t, 10, api.TextWrong, "getbit list 0", "getbit hash 8388607", "getbit sets 0", "getbit rank 0", "getbit led 0")
}

// P17.8: SETBIT puts a bit, tells the one that was there, and keeps the deadline.
func TestSetBit(t *testing.T) {
	check(t, 10, []row{
		{"setbit q 7 1", "(integer) 0", `put q "\x01" 0`},
		{"setbit q 0 1", "(integer) 0", `put q "\x80" 0`},
		{"setbit q 8 1", "(integer) 0", `put q "\x00\x80" 0`},
		{"setbit q 0 0", "(integer) 0", `put q "\x00" 0`},
		{"setbit q 17 0", "(integer) 0", `put q "\x00\x00\x00" 0`},
		{"setbit e 0 0", "(integer) 0", `put e "\x00" 0`},
		{"setbit s 0 1", "(integer) 0", `put s "\xe8ello" 0`},
		{"setbit s 1 0", "(integer) 1", `put s "(ello" 0`},
		{"setbit s 1 1", "(integer) 1", `put s "hello" 0`},
		{"setbit s 0 0", "(integer) 0", `put s "hello" 0`},
		{"setbit s 40 1", "(integer) 0", `put s "hello\x80" 0`},
		{"setbit ones 8 0", "(integer) 1", `put ones "\xff\x7f" 0`},
		{"setbit late 7 1", "(integer) 0", `put late "ii" 1000`},
		{"setbit bits 16 0", "(integer) 1", `put bits "\x00a\x00" 900`},
		{"setbit over 7 1", "(integer) 0", `put over "\x01" 0`},
		{"setbit lost 7 1", "(integer) 0", `put lost "\x01" 0`},
	})
	fails(t, 10, api.TextOffset, "setbit s -1 1", "setbit s 8388608 1", "setbit s -1 2", "setbit s 8388608 x", "setbit list -1 1", "setbit q 9223372036854775807 0", "setbit q -9223372036854775808 0")
	fails(t, 10, api.TextNumber, "setbit s x 1", "setbit s '' 1", "setbit s x 2", "setbit s 01 1", "setbit list x 1", "setbit s 9223372036854775808 1")
	fails(t, 10, api.TextBit, "setbit s 1 2", "setbit s 1 -1", "setbit s 1 x", "setbit s 1 ''", "setbit s 1 01", "setbit s 1 +1", "setbit s 1 -0", "setbit s 1 10", "setbit q 1 2", "setbit list 1 2", "setbit list 1 x", "setbit s 1 9223372036854775808")
	fails(t, 10, api.TextWrong, "setbit list 0 1", "setbit hash 0 0", "setbit sets 8388607 1", "setbit rank 0 1", "setbit led 0 1")
}

// P17.8: BITCOUNT tells how many bits are 1, in the whole string or from one place to another.
func TestCountBits(t *testing.T) {
	check(t, 10, []row{
		{"bitcount s", "(integer) 21", ""},
		{"bitcount s 0 -1", "(integer) 21", ""},
		{"bitcount s 0 0", "(integer) 3", ""},
		{"bitcount s 1 1", "(integer) 4", ""},
		{"bitcount s -1 -1", "(integer) 6", ""},
		{"bitcount s 1 -2", "(integer) 12", ""},
		{"bitcount s -99 99", "(integer) 21", ""},
		{"bitcount s 3 1", "(integer) 0", ""},
		{"bitcount s 5 9", "(integer) 0", ""},
		{"bitcount s -9223372036854775808 9223372036854775807", "(integer) 21", ""},
		{"bitcount ones", "(integer) 16", ""},
		{"bitcount ones 1 1", "(integer) 8", ""},
		{"bitcount bits", "(integer) 4", ""},
		{"bitcount e", "(integer) 0", ""},
		{"bitcount e 0 -1", "(integer) 0", ""},
		{"bitcount q", "(integer) 0", ""},
		{"bitcount q 0 -1", "(integer) 0", ""},
		{"bitcount over", "(integer) 0", ""},
	})
	for _, key := range []string{"s", "q", "list"} {
		fails(t, 10, api.TextSyntax, "bitcount "+key+" 0", "bitcount "+key+" x", "bitcount "+key+" 0 1 2", "bitcount "+key+" x y z", "bitcount "+key+" 0 -1 BIT", "bitcount "+key+" 0 1 2 3")
		fails(t, 10, api.TextNumber, "bitcount "+key+" x 1", "bitcount "+key+" 1 x", "bitcount "+key+" '' 1", "bitcount "+key+" 0 01", "bitcount "+key+" 0 9223372036854775808")
	}
	fails(t, 10, api.TextWrong, "bitcount list", "bitcount list 0 1", "bitcount hash", "bitcount sets 0 1", "bitcount rank", "bitcount led")
}

// P17.8: BITPOS tells the first place of a bit; without an end to look to, a 0 stands behind the string, if it is not empty.
func TestFindBit(t *testing.T) {
	check(t, 10, []row{
		{"bitpos s 1", "(integer) 1", ""},
		{"bitpos s 0", "(integer) 0", ""},
		{"bitpos s 1 1", "(integer) 9", ""},
		{"bitpos s 1 -1", "(integer) 33", ""},
		{"bitpos s 1 1 1", "(integer) 9", ""},
		{"bitpos s 1 5", "(integer) -1", ""},
		{"bitpos s 0 5", "(integer) -1", ""},
		{"bitpos s 1 3 1", "(integer) -1", ""},
		{"bitpos s 0 3 1", "(integer) -1", ""},
		{"bitpos bits 1", "(integer) 9", ""},
		{"bitpos bits 1 0 0", "(integer) -1", ""},
		{"bitpos bits 1 2", "(integer) 16", ""},
		{"bitpos bits 1 -1 -1", "(integer) 16", ""},
		{"bitpos bits 0 2", "(integer) 17", ""},
		{"bitpos bits 1 -99 99", "(integer) 9", ""},
		{"bitpos ones 0", "(integer) 16", ""},
		{"bitpos ones 0 0", "(integer) 16", ""},
		{"bitpos ones 0 1", "(integer) 16", ""},
		{"bitpos ones 0 2", "(integer) -1", ""},
		{"bitpos ones 0 3", "(integer) -1", ""},
		{"bitpos ones 0 9223372036854775807", "(integer) -1", ""},
		{"bitpos ones 0 -1", "(integer) 16", ""},
		{"bitpos ones 0 -2", "(integer) 16", ""},
		{"bitpos ones 0 -3", "(integer) 16", ""},
		{"bitpos ones 0 -9223372036854775808", "(integer) 16", ""},
		{"bitpos ones 0 0 -1", "(integer) -1", ""},
		{"bitpos ones 0 0 1", "(integer) -1", ""},
		{"bitpos ones 0 0 99", "(integer) -1", ""},
		{"bitpos ones 0 -1 -1", "(integer) -1", ""},
		{"bitpos ones 1", "(integer) 0", ""},
		{"bitpos ones 1 1", "(integer) 8", ""},
		{"bitpos ones 1 2", "(integer) -1", ""},
		{"bitpos e 0", "(integer) 0", ""},
		{"bitpos e 1", "(integer) -1", ""},
		{"bitpos e 0 0", "(integer) 0", ""},
		{"bitpos e 0 9 9", "(integer) 0", ""},
		{"bitpos e 1 0 -1", "(integer) -1", ""},
		{"bitpos q 0", "(integer) 0", ""},
		{"bitpos q 1", "(integer) -1", ""},
		{"bitpos q 0 5", "(integer) 0", ""},
		{"bitpos q 0 5 1", "(integer) 0", ""},
		{"bitpos q 1 0", "(integer) -1", ""},
		{"bitpos over 0", "(integer) 0", ""},
		{"bitpos over 1", "(integer) -1", ""},
	})
	for _, key := range []string{"s", "q", "e", "list"} {
		fails(t, 10, api.TextSyntax, "bitpos "+key+" 1 0 1 2", "bitpos "+key+" 2 x y z", "bitpos "+key+" 0 0 -1 BIT", "bitpos "+key+" 0 0 0 0 0")
		fails(t, 10, api.TextBit, "bitpos "+key+" 2", "bitpos "+key+" -1", "bitpos "+key+" x", "bitpos "+key+" ''", "bitpos "+key+" 01", "bitpos "+key+" +1", "bitpos "+key+" 2 x", "bitpos "+key+" x 0 y", "bitpos "+key+" 2 0 1")
		fails(t, 10, api.TextNumber, "bitpos "+key+" 1 x", "bitpos "+key+" 1 0 x", "bitpos "+key+" 0 '' 1", "bitpos "+key+" 0 01", "bitpos "+key+" 0 9223372036854775808")
	}
	fails(t, 10, api.TextWrong, "bitpos list 0", "bitpos list 1 0", "bitpos hash 0 0 1", "bitpos sets 1", "bitpos rank 0", "bitpos led 0")
}

// P17.9: BITOP joins the strings at its keys and puts what comes of it afresh, whatever the target holds.
func TestJoinBits(t *testing.T) {
	check(t, 10, []row{
		{"bitop and q s ones", "(integer) 5", `put q "he\x00\x00\x00" 0`},
		{"bitop or q s ones", "(integer) 5", `put q "\xff\xffllo" 0`},
		{"bitop xor q s ones", "(integer) 5", `put q "\x97\x9allo" 0`},
		{"bitop xor q s late", "(integer) 5", `put q "\x00\fllo" 0`},
		{"bitop xor q s s", "(integer) 5", `put q "\x00\x00\x00\x00\x00" 0`},
		{"bitop xor q s s s", "(integer) 5", `put q "hello" 0`},
		{"bitop not q ones", "(integer) 2", `put q "\x00\x00" 0`},
		{"bitop not q bits", "(integer) 3", `put q "\xff\x9e\x7f" 0`},
		{"bitop and q s", "(integer) 5", `put q "hello" 0`},
		{"bitop or q late", "(integer) 2", `put q "hi" 0`},
		{"bitop xor q late", "(integer) 2", `put q "hi" 0`},
		// Absent, over and empty ones have bytes 0.
		{"bitop and q s r", "(integer) 5", `put q "\x00\x00\x00\x00\x00" 0`},
		{"bitop or q r s over e", "(integer) 5", `put q "hello" 0`},
		{"bitop xor q lost late", "(integer) 2", `put q "hi" 0`},
		// The target is looked at neither for its kind nor for its deadline.
		{"bitop or list s", "(integer) 5", `put list "hello" 0`},
		{"bitop or led s", "(integer) 5", `put led "hello" 0`},
		{"bitop or late s", "(integer) 5", `put late "hello" 0`},
		{"bitop or over s", "(integer) 5", `put over "hello" 0`},
		{"bitop and late late", "(integer) 2", `put late "hi" 0`},
		{"bitop or s late s", "(integer) 5", `put s "hmllo" 0`},
		{"bitop not s s", "(integer) 5", `put s "\x97\x9a\x93\x93\x90" 0`},
	})
	check(t, 10, []row{
		// What comes to nothing drops the target, if it is seen.
		{"bitop or s q", "(integer) 0", "drop s"},
		{"bitop and late e q", "(integer) 0", "drop late"},
		{"bitop not list q", "(integer) 0", "drop list"},
		{"bitop xor led over", "(integer) 0", "drop led"},
		{"bitop not e e", "(integer) 0", "drop e"},
		{"bitop or q r", "(integer) 0", ""},
		{"bitop or over q", "(integer) 0", ""},
		{"bitop or lost e", "(integer) 0", ""},
		{"bitop or q q", "(integer) 0", ""},
	})
}

// P17.9: the operation's name counts without regard to capital letters; another one, and NOT with several keys, are TextSyntax.
func TestOperations(t *testing.T) {
	for op, bytes := range map[string]string{"and": `"h\x00\x00\x00\x00"`, "or": `"kello"`, "xor": `"\vello"`} {
		s := map[string]string{"and": "h", "or": "c", "xor": "c"}[op]
		for _, spelt := range []string{op, strings.ToUpper(op), strings.ToUpper(op[:1]) + op[1:], op[:1] + strings.ToUpper(op[1:])} {
			b := begin()
			b.Put("c", aText(s), 0)
			if _, ok, changes := done(b, 10, words("BITOP "+spelt+" q s c")); !ok || changes != "put q "+bytes+" 0" {
				t.Errorf("%s: %v, %s", spelt, ok, changes)
			}
		}
	}
	for _, not := range []string{"not", "NOT", "Not", "nOt"} {
		check(t, 10, []row{{"bitop " + not + " q ones", "(integer) 2", `put q "\x00\x00" 0`}})
		for _, keys := range []string{"s late", "s s", "q q", "q r", "list s", "s list", "list hash", "s late ones"} {
			fails(t, 10, api.TextSyntax, "bitop "+not+" d "+keys, "bitop "+not+" s "+keys)
		}
	}
	for _, op := range []string{"nand", "''", "an", "andd", "1", "x", "nor", "diff", "q"} {
		fails(t, 10, api.TextSyntax, "bitop "+op+" q s", "bitop "+op+" q s late", "bitop "+op+" q list", "bitop "+op+" list hash rank")
	}
}

// P17.9: a key of another kind among those that are joined is TextWrong; the target alone may be one.
func TestJoinedKinds(t *testing.T) {
	for _, op := range []string{"and", "or", "xor"} {
		for _, key := range []string{"list", "hash", "sets", "rank", "led"} {
			fails(t, 10, api.TextWrong, "bitop "+op+" q "+key, "bitop "+op+" q "+key+" s", "bitop "+op+" q s "+key, "bitop "+op+" s r "+key, "bitop "+op+" "+key+" s "+key, "bitop "+op+" "+key+" "+key, "bitop "+op+" s s "+key+" late")
		}
	}
	fails(t, 10, api.TextWrong, "bitop not q list", "bitop not list list")
	check(t, 10, []row{{"bitop or q lost s", "(integer) 5", `put q "hello" 0`}})
}
