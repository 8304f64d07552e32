package blob

import (
	"fmt"
	"math"
	"math/big"
	"math/rand"
	"strings"
	"testing"

	"covenant/api"
)

// The chapter's words told another way: bytes are picked place by place, bits are digits 0 and 1, sums are big numbers.

// plainSpan gives the places that lie from one place to another, one by one.
func plainSpan(n, from, to int) []int {
	f, t := from, to
	if from < 0 {
		f = n + from
	}
	if f < 0 {
		f = 0
	}
	if to < 0 {
		t = n + to
	}
	var places []int
	for i := range n {
		if i >= f && i <= t {
			places = append(places, i)
		}
	}
	return places
}

func plainRange(s string, from, to int) string {
	out := ""
	for _, i := range plainSpan(len(s), from, to) {
		out += s[i : i+1]
	}
	return out
}

func plainSplice(s string, at int, t string) (string, api.Errno) {
	if at < 0 {
		return "", api.ErrArg
	}
	if t == "" {
		return s, api.OK
	}
	end := new(big.Int).Add(big.NewInt(int64(at)), big.NewInt(int64(len(t))))
	if end.Cmp(big.NewInt(maxText)) > 0 {
		return "", api.ErrLong
	}
	for len(s) < at {
		s += "\x00"
	}
	behind := ""
	if len(s) > at+len(t) {
		behind = s[at+len(t):]
	}
	return s[:at] + t + behind, api.OK
}

// digits tells a text's bits, and so many more behind its end.
func digits(s string, more int) string {
	out := ""
	for _, c := range []byte(s) {
		out += fmt.Sprintf("%08b", c)
	}
	return out + strings.Repeat("0", more)
}

// undigits is the text whose bits these are.
func undigits(d string) string {
	out := []byte{}
	for ; d != ""; d = d[8:] {
		n := 0
		for _, c := range d[:8] {
			n = 2*n + int(c-'0')
		}
		out = append(out, byte(n))
	}
	return string(out)
}

// plainSetBit is for places at which a short text ends soon.
func plainSetBit(s string, at, bit int) (string, int) {
	for len(s)*8 <= at {
		s += "\x00"
	}
	d := digits(s, 0)
	return undigits(d[:at] + fmt.Sprint(bit) + d[at+1:]), int(d[at] - '0')
}

func plainFirst(s string, bit, from, to int) int {
	d := digits(s, 0)
	for _, i := range plainSpan(len(s), from, to) {
		for at := 8 * i; at < 8*i+8; at++ {
			if int(d[at]-'0') == bit {
				return at
			}
		}
	}
	return -1
}

func plainOp(op int, l []string) (string, api.Errno) {
	if op != 1 && op != 2 && op != 3 && op != 4 || len(l) == 0 || op == 4 && len(l) != 1 {
		return "", api.ErrNothing
	}
	longest := 0
	for _, s := range l {
		longest = max(longest, len(s))
	}
	out := ""
	for at := range 8 * longest {
		ones := 0
		for _, s := range l {
			if digits(s, 8*(longest-len(s)))[at] == '1' {
				ones++
			}
		}
		is := map[int]bool{1: ones == len(l), 2: ones > 0, 3: ones%2 == 1, 4: ones == 0}[op]
		out += map[bool]string{true: "1", false: "0"}[is]
	}
	return undigits(out), api.OK
}

// texts gives all texts of up to so many of these bytes.
func texts(bytes string, longest int) []string {
	out := []string{""}
	for from, length := 0, 1; length <= longest; length++ {
		to := len(out)
		for _, s := range out[from:to] {
			for i := range len(bytes) {
				out = append(out, s+bytes[i:i+1])
			}
		}
		from = to
	}
	return out
}

// places gives those about a text of n bytes, and the outermost ones.
func places(n int) []int {
	out := []int{math.MinInt, math.MinInt + 1, math.MaxInt - 1, math.MaxInt}
	for p := -n - 2; p <= n+2; p++ {
		out = append(out, p)
	}
	return out
}

// holdBytes holds Range, Count and First of a text against the model at all places.
func holdBytes(t *testing.T, s string) {
	t.Helper()
	for _, from := range places(len(s)) {
		for _, to := range places(len(s)) {
			want := plainRange(s, from, to)
			if got := Range(s, from, to); got != want {
				t.Fatalf("Range(%q, %d, %d): %q, not %q", s, from, to, got, want)
			}
			if got := Count(s, from, to); got != strings.Count(digits(want, 0), "1") {
				t.Fatalf("Count(%q, %d, %d): %d", s, from, to, got)
			}
			for bit := range 2 {
				if got, e := First(s, bit, from, to); got != plainFirst(s, bit, from, to) || e != api.OK {
					t.Fatalf("First(%q, %d, %d, %d): %d %d", s, bit, from, to, got, e)
				}
			}
		}
	}
}

// holdBits holds Bit and SetBit of a text against the model, and P8.7, at all places up to some bytes behind its end.
func holdBits(t *testing.T, s string) {
	t.Helper()
	for at := range 8*len(s) + 20 {
		want := int(digits(s, 20)[at] - '0')
		if got, e := Bit(s, at); got != want || e != api.OK {
			t.Fatalf("Bit(%q, %d): %d %d", s, at, got, e)
		}
		for bit := range 2 {
			want, stood := plainSetBit(s, at, bit)
			set, told, e := SetBit(s, at, bit)
			if set != want || told != stood || e != api.OK {
				t.Fatalf("SetBit(%q, %d, %d): %q %d %d, not %q %d", s, at, bit, set, told, e, want, stood)
			}
			holdSet(t, s, at, bit, set, told)
		}
	}
}

// holdSet holds P8.7 of what SetBit answered.
func holdSet(t *testing.T, s string, at, bit int, set string, told int) {
	t.Helper()
	for i := range 8*len(set) + 20 {
		was, _ := Bit(s, i)
		is, e := Bit(set, i)
		if i == at && is != bit || i != at && is != was || e != api.OK {
			t.Fatalf("SetBit(%q, %d, %d): bit %d is %d", s, at, bit, i, is)
		}
	}
	back, now, e := SetBit(set, at, told)
	if back != s+zeros(len(set)-len(s)) || now != bit || e != api.OK {
		t.Fatalf("SetBit(%q, %d, %d) and back: %q %d %d", s, at, bit, back, now, e)
	}
}

// holdSplice holds Splice against the model, and P8.8.
func holdSplice(t *testing.T, s string, at int, over string) {
	t.Helper()
	want, wrong := plainSplice(s, at, over)
	got, e := Splice(s, at, over)
	if got != want || e != wrong {
		t.Fatalf("Splice(%q, %d, %q): %q %d, not %q %d", s, at, over, got, e, want, wrong)
	}
	if e == api.OK && over != "" && Range(got, at, at+len(over)-1) != over {
		t.Fatalf("Range of Splice(%q, %d, %q): %q", s, at, over, Range(got, at, at+len(over)-1))
	}
}

// holdOp holds Op of texts against the model.
func holdOp(t *testing.T, l ...string) {
	t.Helper()
	for op := -1; op <= 6; op++ {
		want, wrong := plainOp(op, l)
		if got, e := Op(op, l); got != want || e != wrong {
			t.Fatalf("Op(%d, %q): %q %d, not %q %d", op, l, got, e, want, wrong)
		}
	}
}

// holdTwo holds what follows of Op by P8.8.
func holdTwo(t *testing.T, a, b string) {
	t.Helper()
	and, e := Op(api.BitAnd, []string{a, b})
	or, f := Op(api.BitOr, []string{a, b})
	if Count(and, 0, -1)+Count(or, 0, -1) != Count(a, 0, -1)+Count(b, 0, -1) || e != api.OK || f != api.OK {
		t.Fatalf("Counts of BitAnd and BitOr of %q and %q: %q %q", a, b, and, or)
	}
	if none, e := Op(api.BitXor, []string{a, a}); none != zeros(len(a)) || e != api.OK {
		t.Fatalf("BitXor of %q and itself: %q %d", a, none, e)
	}
	not, e := Op(api.BitNot, []string{a})
	twice, f := Op(api.BitNot, []string{not})
	if twice != a || e != api.OK || f != api.OK {
		t.Fatalf("BitNot twice of %q: %q", a, twice)
	}
}

// P8.1 to P8.5, P8.7 and P8.8, on all short texts of these bytes.
func TestShortTexts(t *testing.T) {
	for _, s := range texts("\x00\xff\x01\x80a", 4) {
		holdBytes(t, s)
	}
	for _, s := range texts("\x00\xff\x01\x80a", 3) {
		holdBits(t, s)
	}
	for i := range 256 {
		holdBits(t, string([]byte{byte(i)}))
		holdBytes(t, string([]byte{byte(i)}))
		holdOp(t, string([]byte{byte(i)}))
	}
	for _, s := range texts("a\x00", 4) {
		for _, over := range texts("x\x00", 4) {
			for at := -2; at <= 7; at++ {
				holdSplice(t, s, at, over)
			}
			for _, at := range []int{maxText - len(over) + 1, maxText + 1, math.MinInt, math.MaxInt, math.MaxInt - len(over), math.MaxInt - len(over) + 1} {
				holdSplice(t, s, at, over)
			}
		}
	}
}

// P8.5 and P8.8, on all short rows of short texts, and on all pairs of bytes.
func TestShortRows(t *testing.T) {
	some := texts("\x0f\xff\x33", 2)
	holdOp(t)
	for _, a := range some {
		holdOp(t, a)
		for _, b := range some {
			holdOp(t, a, b)
			holdTwo(t, a, b)
			for _, c := range some {
				holdOp(t, a, b, c)
			}
		}
	}
	for i := range 1 << 16 {
		a, b := string([]byte{byte(i)}), string([]byte{byte(i >> 8)})
		holdTwo(t, a, b)
		and, _ := Op(api.BitAnd, []string{a, b})
		or, _ := Op(api.BitOr, []string{a, b})
		xor, _ := Op(api.BitXor, []string{a, b})
		if and[0] != a[0]&b[0] || or[0] != a[0]|b[0] || xor[0] != a[0]^b[0] {
			t.Fatalf("Op of %q and %q: %q %q %q", a, b, and, or, xor)
		}
	}
}

// random gives a text of any bytes, the bytes 0 and 255 more often than others.
func random(r *rand.Rand, most int) string {
	out := make([]byte, r.Intn(most+1))
	for i := range out {
		out[i] = []byte{0, 255, byte(r.Int())}[r.Intn(3)]
	}
	return string(out)
}

// P8.1 to P8.5, P8.7 and P8.8, on longer texts of any bytes.
func TestRandomTexts(t *testing.T) {
	r := rand.New(rand.NewSource(8))
	for range 40 {
		holdBytes(t, random(r, 12))
		holdBits(t, random(r, 8))
	}
	for range 5000 {
		holdSplice(t, random(r, 40), r.Intn(60)-2, random(r, 30))
	}
	for range 300 {
		l := make([]string, r.Intn(6))
		for i := range l {
			l[i] = random(r, 9)
		}
		holdOp(t, l...)
		holdTwo(t, random(r, 30), random(r, 30))
	}
}

// P8.6: sums of many numbers, those at the edges among them, against big ones.
func TestSums(t *testing.T) {
	r := rand.New(rand.NewSource(9))
	numbers := []int{math.MinInt, math.MinInt + 1, math.MinInt + 2, math.MinInt / 2, math.MinInt/2 - 1, math.MaxInt/2 + 1, math.MaxInt / 2, math.MaxInt - 2, math.MaxInt - 1, math.MaxInt}
	for n := -11; n <= 11; n++ {
		numbers = append(numbers, n)
	}
	for range 300 {
		numbers = append(numbers, int(r.Uint64())>>r.Intn(64))
	}
	for _, n := range numbers {
		for _, by := range numbers {
			exact := new(big.Int).Add(big.NewInt(int64(n)), big.NewInt(int64(by)))
			text, sum, wrong := "", 0, api.ErrOver
			if exact.IsInt64() {
				text, sum, wrong = exact.String(), int(exact.Int64()), api.OK
			}
			if got, told, e := Incr(fmt.Sprint(n), by); got != text || told != sum || e != wrong {
				t.Fatalf("Incr(%d, %d): %q %d %d, not %q %d %d", n, by, got, told, e, text, sum, wrong)
			}
		}
	}
}
