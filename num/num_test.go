package num

import (
	"hash/crc32"
	"math"
	"math/big"
	"math/rand"
	"strconv"
	"strings"
	"testing"

	"covenant/api"
)

// edges are the numbers about which sums, products and texts turn over.
func edges() []int {
	l := []int{}
	for _, n := range []int{0, 10, 100, 1 << 31, 1 << 32, 3037000499, 1 << 53, 1 << 62, math.MaxInt / 2, math.MaxInt / 3, 999999999999999999, 1000000000000000000} {
		for d := -2; d <= 2; d++ {
			l = append(l, n+d, -(n + d))
		}
	}
	return append(l, math.MinInt, math.MinInt+1, math.MinInt+2, math.MaxInt-2, math.MaxInt-1, math.MaxInt)
}

// numbers are the edges, and others of all lengths, the same at each run.
func numbers(more int) []int {
	r := rand.New(rand.NewSource(1))
	l := edges()
	for range more {
		l = append(l, int(r.Uint64())>>r.Intn(64))
	}
	return l
}

// 1.1: a number's text is read as the number, and written so.
func TestParseTakesTexts(t *testing.T) {
	for s, want := range map[string]int{
		"0": 0, "1": 1, "-1": -1, "9": 9, "10": 10, "-10": -10, "-5": -5, "100": 100, "120034": 120034,
		"9223372036854775806": math.MaxInt - 1, "9223372036854775807": math.MaxInt,
		"-9223372036854775807": math.MinInt + 1, "-9223372036854775808": math.MinInt,
	} {
		if n, e := Parse(s); n != want || e != api.OK {
			t.Errorf("Parse(%q): %d %d, want %d", s, n, e, want)
		}
		if got := Print(want); got != s {
			t.Errorf("Print(%d): %q, want %q", want, got, s)
		}
	}
}

// 1.1: every other text is refused, and the number beside the error is 0.
func TestParseRefusesTexts(t *testing.T) {
	for _, s := range []string{
		"", "-", "+", "--1", "+1", "+0", "-+1", "-0", "-00", "00", "01", "007", "-01", "-007",
		"9223372036854775808", "-9223372036854775809", "9223372036854775810", "18446744073709551615", "18446744073709551616", "18446744073709551621",
		"99999999999999999999", "-99999999999999999999", "00000000000000000000001",
		" 1", "1 ", "1 2", "\t1", "1\n", "1\r\n", "1\x00", "\x001", "1a", "a", "a1", "1-", "1-1", "5-",
		"1_000", "0x10", "0b1", "0o7", "1e3", "1.0", "1.", ".1", "1,000", "inf", "NaN", "\xff", "1\xff", "\u0661", "\uff11", "\u22121",
		strings.Repeat("1", 5000), "-" + strings.Repeat("9", 5000), strings.Repeat("0", 5000), strings.Repeat("0", 5000) + "1",
	} {
		if n, e := Parse(s); n != 0 || e != api.ErrNumber {
			t.Errorf("Parse(%.40q): %d %d, want 0 and ErrNumber", s, n, e)
		}
	}
}

// 1.1: of all texts of up to four of these bytes just the numbers' are taken.
func TestParseShortTexts(t *testing.T) {
	texts := []string{""}
	for from, length := 0, 1; length <= 4; length++ {
		to := len(texts)
		for _, s := range texts[from:to] {
			for _, c := range []byte("-+0129 /:") {
				texts = append(texts, s+string(c))
			}
		}
		from = to
	}
	for _, s := range texts {
		want, ok := plainNumber(s)
		n, e := Parse(s)
		if ok && (n != want || e != api.OK) || !ok && (n != 0 || e != api.ErrNumber) {
			t.Errorf("Parse(%q): %d %d, want %d %t", s, n, e, want, ok)
		}
	}
}

// plainNumber reads a short text by the document's words.
func plainNumber(s string) (int, bool) {
	digits, sign := strings.CutPrefix(s, "-")
	if digits == "" || digits[0] == '0' && (len(digits) > 1 || sign) {
		return 0, false
	}
	n := 0
	for _, c := range []byte(digits) {
		if c < '0' || c > '9' {
			return 0, false
		}
		n = 10*n + int(c-'0')
	}
	if sign {
		n = -n
	}
	return n, true
}

// 1.1, 1.5, T10: Parse of Print(n) is n, and Print is the number in decimal digits.
func TestPrintAndBack(t *testing.T) {
	for _, n := range numbers(20000) {
		s := Print(n)
		if want := big.NewInt(int64(n)).String(); s != want {
			t.Fatalf("Print(%d): %q, want %q", n, s, want)
		}
		if m, e := Parse(s); m != n || e != api.OK {
			t.Fatalf("Parse(%q): %d %d", s, m, e)
		}
	}
}

// 1.5, T10: Print of what Parse takes is the very text, so a text with one byte changed is refused or another number's.
func TestParseAndBack(t *testing.T) {
	for _, n := range numbers(200) {
		s := Print(n)
		for i := range len(s) {
			for _, c := range []byte("-+05 x") {
				spoilt := s[:i] + string(c) + s[i+1:]
				m, e := Parse(spoilt)
				if e == api.OK && Print(m) != spoilt {
					t.Fatalf("Print(Parse(%q)): %q", spoilt, Print(m))
				}
				if e == api.OK && m == n && spoilt != s {
					t.Fatalf("Parse(%q) and Parse(%q): both %d", spoilt, s, n)
				}
			}
		}
	}
}

// checkAgainstBig holds a checked operation against the same one on numbers without an end.
func checkAgainstBig(t *testing.T, name string, a, b, got int, e api.Errno, want *big.Int) {
	t.Helper()
	if want.IsInt64() {
		if int64(got) != want.Int64() || e != api.OK {
			t.Fatalf("%s(%d, %d): %d %d, want %s", name, a, b, got, e, want)
		}
	} else if got != 0 || e != api.ErrOver {
		t.Fatalf("%s(%d, %d): %d %d, want 0 and ErrOver", name, a, b, got, e)
	}
}

// 1.2: sums, differences and products are right, and refused just where they are no int.
func TestSumsAgainstBig(t *testing.T) {
	l := numbers(500)
	for _, a := range l {
		for _, b := range l {
			x, y := big.NewInt(int64(a)), big.NewInt(int64(b))
			n, e := Add(a, b)
			checkAgainstBig(t, "Add", a, b, n, e, new(big.Int).Add(x, y))
			n, e = Sub(a, b)
			checkAgainstBig(t, "Sub", a, b, n, e, new(big.Int).Sub(x, y))
			n, e = Mul(a, b)
			checkAgainstBig(t, "Mul", a, b, n, e, new(big.Int).Mul(x, y))
		}
	}
}

// 1.2: the edges, one by one.
func TestSumsAtEdges(t *testing.T) {
	least, greatest := math.MinInt, math.MaxInt
	for _, c := range []struct {
		name string
		op   func(a, b int) (int, api.Errno)
		a, b int
		want int
		e    api.Errno
	}{
		{"Add", Add, 2, 3, 5, api.OK},
		{"Add", Add, greatest, 0, greatest, api.OK},
		{"Add", Add, greatest - 1, 1, greatest, api.OK},
		{"Add", Add, greatest, 1, 0, api.ErrOver},
		{"Add", Add, greatest, greatest, 0, api.ErrOver},
		{"Add", Add, least, greatest, -1, api.OK},
		{"Add", Add, least + 1, -1, least, api.OK},
		{"Add", Add, least, -1, 0, api.ErrOver},
		{"Add", Add, least, least, 0, api.ErrOver},
		{"Sub", Sub, 2, 3, -1, api.OK},
		{"Sub", Sub, -1, greatest, least, api.OK},
		{"Sub", Sub, -2, greatest, 0, api.ErrOver},
		{"Sub", Sub, -1, least, greatest, api.OK},
		{"Sub", Sub, 0, least, 0, api.ErrOver},
		{"Sub", Sub, least, least, 0, api.OK},
		{"Sub", Sub, least, 1, 0, api.ErrOver},
		{"Sub", Sub, greatest, -1, 0, api.ErrOver},
		{"Mul", Mul, -3, 4, -12, api.OK},
		{"Mul", Mul, 0, least, 0, api.OK},
		{"Mul", Mul, least, 0, 0, api.OK},
		{"Mul", Mul, least, 1, least, api.OK},
		{"Mul", Mul, 1, least, least, api.OK},
		{"Mul", Mul, least, -1, 0, api.ErrOver},
		{"Mul", Mul, -1, least, 0, api.ErrOver},
		{"Mul", Mul, greatest, -1, least + 1, api.OK},
		{"Mul", Mul, -1, greatest, least + 1, api.OK},
		{"Mul", Mul, least, least, 0, api.ErrOver},
		{"Mul", Mul, 1 << 32, 1 << 32, 0, api.ErrOver},
		{"Mul", Mul, 1 << 31, 1 << 32, 0, api.ErrOver},
		{"Mul", Mul, 1 << 31, -(1 << 32), least, api.OK},
	} {
		if n, e := c.op(c.a, c.b); n != c.want || e != c.e {
			t.Errorf("%s(%d, %d): %d %d, want %d %d", c.name, c.a, c.b, n, e, c.want, c.e)
		}
	}
}

// 1.5: Add and Mul are the same the other way round; Sub of Add(a, b) and b is a.
func TestSumsTurnedRound(t *testing.T) {
	l := numbers(300)
	for _, a := range l {
		for _, b := range l {
			sum, e := Add(a, b)
			if m, f := Add(b, a); m != sum || f != e {
				t.Fatalf("Add(%d, %d): %d %d, the other way round %d %d", a, b, sum, e, m, f)
			}
			if e == api.OK {
				if back, f := Sub(sum, b); f == api.OK && back != a {
					t.Fatalf("Sub(%d, %d): %d, want %d", sum, b, back, a)
				}
			}
			product, e := Mul(a, b)
			if m, f := Mul(b, a); m != product || f != e {
				t.Fatalf("Mul(%d, %d): %d %d, the other way round %d %d", a, b, product, e, m, f)
			}
		}
	}
}

// 1.3: the bytes, the lowest first.
func TestFixGivesBytes(t *testing.T) {
	for _, c := range []struct {
		n     uint64
		width int
		want  string
	}{
		{0, 1, "\x00"},
		{255, 1, "\xff"},
		{258, 2, "\x02\x01"},
		{258, 3, "\x02\x01\x00"},
		{0, 8, "\x00\x00\x00\x00\x00\x00\x00\x00"},
		{0x0102030405060708, 8, "\x08\x07\x06\x05\x04\x03\x02\x01"},
		{math.MaxUint64, 8, "\xff\xff\xff\xff\xff\xff\xff\xff"},
		{1 << 63, 8, "\x00\x00\x00\x00\x00\x00\x00\x80"},
	} {
		if s, e := Fix(c.n, c.width); s != c.want || e != api.OK {
			t.Errorf("Fix(%d, %d): %q %d, want %q", c.n, c.width, s, e, c.want)
		}
	}
}

// 1.3: a width outside 1 to 8 is refused, whatever the number.
func TestFixRefusesWidths(t *testing.T) {
	for _, width := range []int{math.MinInt, -8, -1, 0, 9, 64, 1 << 61, 1<<61 + 1, math.MaxInt} {
		for _, n := range []uint64{0, 1, 255, 256, math.MaxUint64} {
			if s, e := Fix(n, width); s != "" || e != api.ErrWidth {
				t.Errorf("Fix(%d, %d): %q %d, want ErrWidth", n, width, s, e)
			}
		}
	}
}

// 1.3: 256 to the power of the width is refused, one less is taken.
func TestFixRefusesWideNumbers(t *testing.T) {
	for width := 1; width < 8; width++ {
		power := uint64(1) << (8 * width)
		for _, n := range []uint64{power, power + 1, math.MaxUint64} {
			if s, e := Fix(n, width); s != "" || e != api.ErrWidth {
				t.Errorf("Fix(%d, %d): %q %d, want ErrWidth", n, width, s, e)
			}
		}
		if s, e := Fix(power-1, width); s != strings.Repeat("\xff", width) || e != api.OK {
			t.Errorf("Fix(%d, %d): %q %d", power-1, width, s, e)
		}
	}
}

// 1.3: texts of 1 to 8 bytes are read, others refused.
func TestUnfix(t *testing.T) {
	for s, want := range map[string]uint64{
		"\x00": 0, "\x07": 7, "\xff": 255, "\x02\x01": 258, "\x02\x01\x00": 258,
		"\x08\x07\x06\x05\x04\x03\x02\x01": 0x0102030405060708,
		"\xff\xff\xff\xff\xff\xff\xff\xff": math.MaxUint64,
		"\x00\x00\x00\x00\x00\x00\x00\x80": 1 << 63,
		"\x00\x00\x00\x00\x00\x00\x00\x00": 0,
	} {
		if n, e := Unfix(s); n != want || e != api.OK {
			t.Errorf("Unfix(%q): %d %d, want %d", s, n, e, want)
		}
	}
	for _, s := range []string{"", "\x01\x00\x00\x00\x00\x00\x00\x00\x00", strings.Repeat("\x00", 9), strings.Repeat("x", 1000)} {
		if n, e := Unfix(s); n != 0 || e != api.ErrWidth {
			t.Errorf("Unfix of %d bytes: %d %d, want 0 and ErrWidth", len(s), n, e)
		}
	}
}

// 1.5, T10: Unfix of Fix(n, width) is n, and Fix of Unfix(s) at its length is s.
func TestFixAndBack(t *testing.T) {
	for _, number := range numbers(5000) {
		n := uint64(number)
		for width := 1; width <= 8; width++ {
			s, e := Fix(n, width)
			if e != api.OK {
				if width == 8 || n < 1<<(8*width) {
					t.Fatalf("Fix(%d, %d): %d", n, width, e)
				}
				continue
			}
			if len(s) != width {
				t.Fatalf("Fix(%d, %d): %q", n, width, s)
			}
			m, e := Unfix(s)
			if m != n || e != api.OK {
				t.Fatalf("Unfix(%q): %d %d, want %d", s, m, e, n)
			}
			if again, e := Fix(m, len(s)); again != s || e != api.OK {
				t.Fatalf("Fix(%d, %d): %q %d, want %q", m, len(s), again, e, s)
			}
		}
	}
}

// slowCrc is the sum bit by bit, as the chapter tells it.
func slowCrc(s string) uint32 {
	r := uint32(math.MaxUint32)
	for _, c := range []byte(s) {
		r ^= uint32(c)
		for range 8 {
			fell := r & 1
			r >>= 1
			if fell == 1 {
				r ^= 3988292384
			}
		}
	}
	return ^r
}

// samples are texts of many lengths with all bytes in them.
func samples() []string {
	r := rand.New(rand.NewSource(2))
	l := []string{"", "\x00", "\xff", "\x00\x00", "a", "123456789", strings.Repeat("\x00", 100), strings.Repeat("\xff", 100)}
	for c := range 256 {
		l = append(l, string([]byte{byte(c)}))
	}
	for length := range 300 {
		b := make([]byte, length)
		r.Read(b)
		l = append(l, string(b))
	}
	return l
}

// 1.4: the sums that the chapter names, and others.
func TestCrc(t *testing.T) {
	for s, want := range map[string]uint32{"123456789": 3421780262, "": 0, "a": 0xe8b7be43, "\x00": 0xd202ef8d, "\x00\x00\x00\x00": 0x2144df1c, "\xff\xff\xff\xff": 0xffffffff} {
		if got := Crc(s); got != want {
			t.Errorf("Crc(%q): %d, want %d", s, got, want)
		}
	}
	for _, s := range samples() {
		got := Crc(s)
		if want := slowCrc(s); got != want {
			t.Fatalf("Crc(%q): %d, want %d", s, got, want)
		}
		if want := crc32.ChecksumIEEE([]byte(s)); got != want {
			t.Fatalf("Crc(%q): %d, the library's %d", s, got, want)
		}
	}
}

// 1.4: a sum goes on where the text ahead ended, wherever it is cut, and in several pieces.
func TestMore(t *testing.T) {
	if got := More(Crc("1234"), "56789"); got != 3421780262 {
		t.Errorf("More: %d", got)
	}
	for _, s := range samples() {
		want := slowCrc(s)
		piecewise := Crc("")
		for i := range len(s) {
			piecewise = More(piecewise, s[i:i+1])
			if got := More(Crc(s[:i]), s[i:]); got != want {
				t.Fatalf("More at %d of %q: %d, want %d", i, s, got, want)
			}
		}
		if piecewise != want {
			t.Fatalf("More by single bytes of %q: %d, want %d", s, piecewise, want)
		}
		if got := More(want, ""); got != want {
			t.Fatalf("More(%d, \"\"): %d", want, got)
		}
	}
}

// 1.4: any number may be handed in as a sum; More with nothing behind it leaves each as it is.
func TestMoreOfAnySum(t *testing.T) {
	for _, sum := range []uint32{0, 1, 1 << 31, math.MaxUint32, 3988292384} {
		if got := More(sum, ""); got != sum {
			t.Errorf("More(%d, \"\"): %d", sum, got)
		}
		if got, want := More(sum, "ab"), crc32.Update(sum, crc32.IEEETable, []byte("ab")); got != want {
			t.Errorf("More(%d, \"ab\"): %d, want %d", sum, got, want)
		}
	}
}

// 1.5, T10: texts that differ in one byte alone have unlike sums.
func TestCrcTellsOneByte(t *testing.T) {
	for _, s := range []string{"\x00", "a", "ab", "12345678", "123456789", strings.Repeat("\x00", 17), strings.Repeat("\xff", 17)} {
		want := Crc(s)
		for i := range len(s) {
			seen := map[uint32]int{}
			for c := range 256 {
				spoilt := s[:i] + string([]byte{byte(c)}) + s[i+1:]
				got := Crc(spoilt)
				if other, ok := seen[got]; ok {
					t.Fatalf("%q: the bytes %d and %d at %d have the same sum", s, other, c, i)
				}
				seen[got] = c
				if (got == want) != (spoilt == s) {
					t.Fatalf("Crc(%q) and Crc(%q): %d %d", s, spoilt, want, got)
				}
			}
		}
	}
}

// R5: the same call answers the same, however many ran ahead.
func TestCallsKeepNothing(t *testing.T) {
	for i := range 100 {
		s := strconv.Itoa(i)
		Crc(s)
		Parse("x" + s)
		if Crc("123456789") != 3421780262 || More(Crc("1234"), "56789") != 3421780262 {
			t.Fatalf("the sum changed behind %d calls", i)
		}
	}
}
