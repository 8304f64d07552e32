// Package num is layer 1: numbers as texts, checked sums and products, numbers as bytes, and CRC-32. See shared/doc/01-num.md.
package num

import (
	"strconv"

	"covenant/api"
)

// maxWidth is how many bytes the widest number has.
const maxWidth = 8

// polynomial is that of IEEE 802.3, its bits turned round.
const polynomial = 3988292384

// Parse reads a number's text, and refuses every other spelling of the number.
func Parse(s string) (int, api.Errno) {
	n, err := strconv.Atoi(s)
	// Atoi takes a plus and noughts ahead; the one text that Print gives does not have them.
	if err != nil || Print(n) != s {
		return 0, api.ErrNumber
	}
	return n, api.OK
}

// Print gives a number's one text.
func Print(n int) string {
	return strconv.Itoa(n)
}

// Add gives a + b, if that is an int.
func Add(a, b int) (int, api.Errno) {
	sum := a + b
	// A sum that wrapped round lies on the wrong side of a.
	if b > 0 && sum < a || b < 0 && sum > a {
		return 0, api.ErrOver
	}
	return sum, api.OK
}

// Sub gives a - b, if that is an int.
func Sub(a, b int) (int, api.Errno) {
	rest := a - b
	// Not Add of -b: the least number has no opposite.
	if b > 0 && rest > a || b < 0 && rest < a {
		return 0, api.ErrOver
	}
	return rest, api.OK
}

// Mul gives a * b, if that is an int.
func Mul(a, b int) (int, api.Errno) {
	if b == 0 {
		return 0, api.OK
	}
	if b == -1 {
		// The least number by -1 wraps round to itself, in product and quotient alike: dividing back would not tell.
		return Sub(0, a)
	}
	product := a * b
	if product/b != a {
		return 0, api.ErrOver
	}
	return product, api.OK
}

// Fix gives n as just width bytes, the lowest first.
func Fix(n uint64, width int) (string, api.Errno) {
	// At the full width all bits are shifted out, so that every n fits.
	if width < 1 || width > maxWidth || n>>(8*width) != 0 {
		return "", api.ErrWidth
	}
	out := make([]byte, width)
	for i := range width {
		out[i] = byte(n >> (8 * i))
	}
	return string(out), api.OK
}

// Unfix gives the number whose bytes s has, the lowest first.
func Unfix(s string) (uint64, api.Errno) {
	if len(s) < 1 || len(s) > maxWidth {
		return 0, api.ErrWidth
	}
	var n uint64
	for i := range len(s) {
		n |= uint64(s[i]) << (8 * i)
	}
	return n, api.OK
}

// Crc gives the sum of s.
func Crc(s string) uint32 {
	return More(0, s)
}

// More gives, of the sum of a text, the sum of that text with s behind it.
func More(sum uint32, s string) uint32 {
	steps := byteSteps()
	// The bits were turned at the end of the sum that goes on here; they are turned back.
	r := ^sum
	for i := range len(s) {
		r = r>>8 ^ steps[byte(r)^s[i]]
	}
	return ^r
}

// byteSteps gives, for each value of the lowest byte, what its eight shifts come to, so that a text is gone over by bytes, not by bits.
func byteSteps() [256]uint32 {
	var steps [256]uint32
	for low := range 256 {
		r := uint32(low)
		for range 8 {
			r = shiftOnce(r)
		}
		steps[low] = r
	}
	return steps
}

func shiftOnce(r uint32) uint32 {
	if r&1 == 1 {
		return r>>1 ^ polynomial
	}
	return r >> 1
}
