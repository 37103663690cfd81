// Package fixed is layer 1: numbers with three decimals (see shared/doc/01-fixed.md).
package fixed

import (
	"math/bits"
	"strconv"
	"strings"

	"layout/api"
)

// unit is the number 1, in thousandths.
const unit = 1000

// maxDigits is the greatest number of digits after the point.
const maxDigits = 3

// Format returns the text of n thousandths.
func Format(n int) string {
	m := magnitude(n)
	text := strconv.FormatUint(m/unit, 10)
	if n < 0 {
		text = "-" + text
	}
	rest := m % unit
	if rest == 0 {
		return text
	}
	// The added unit keeps the zeros that follow the point.
	digits := strconv.FormatUint(unit+rest, 10)[1:]
	return text + "." + strings.TrimRight(digits, "0")
}

// Parse returns the value of s in thousandths, ErrSyntax unless s has the
// form of a number, or ErrOverflow if the value is not that of a coordinate.
func Parse(s string) (int, api.Errno) {
	text, negative := strings.CutPrefix(s, "-")
	whole, count := leadingDigits(text)
	if count == 0 || count > 1 && text[0] == '0' || s == "-0" {
		return 0, api.ErrSyntax
	}
	part, ok := fraction(text[count:])
	if !ok {
		return 0, api.ErrSyntax
	}
	value := whole*unit + part
	if value > api.MaxCoord {
		return 0, api.ErrOverflow
	}
	if negative {
		value = -value
	}
	return value, api.OK
}

// leadingDigits reads the digits at the beginning of s and returns their value
// and their count. A value that is too large for a number stops growing as
// soon as it is, since a text of any length must not wrap around to a small one.
func leadingDigits(s string) (value, count int) {
	const tooLarge = api.MaxCoord/unit + 1
reading:
	for count < len(s) {
		switch c := s[count]; {
		case '0' <= c && c <= '9':
			value = min(10*value+int(c-'0'), tooLarge)
			count++
		default:
			break reading
		}
	}
	return value, count
}

// fraction returns the thousandths of s, which is what follows the digits
// before the point, and whether s may follow them.
func fraction(s string) (int, bool) {
	if s == "" {
		return 0, true
	}
	digits, point := strings.CutPrefix(s, ".")
	value, count := leadingDigits(digits)
	if !point || count == 0 || count > maxDigits || count < len(digits) || digits[count-1] == '0' {
		return 0, false
	}
	for ; count < maxDigits; count++ {
		value *= 10
	}
	return value, true
}

// Mul returns a * b / 1000, rounded.
func Mul(a, b int) (int, api.Errno) {
	return ratio(a, b, unit)
}

// Div returns a * 1000 / b, rounded, or ErrArg if b is 0.
func Div(a, b int) (int, api.Errno) {
	if b == 0 {
		return 0, api.ErrArg
	}
	return ratio(a, unit, b)
}

// ratio returns a * b / d, rounded, for any d but 0. The product is kept in
// two words, because it need not fit in one.
func ratio(a, b, d int) (int, api.Errno) {
	divisor := magnitude(d)
	high, low := bits.Mul64(magnitude(a), magnitude(b))
	// Half a divisor more makes the division, which rounds down, round to the
	// nearest integer, and away from zero where two are equally near.
	low, carry := bits.Add64(low, divisor/2, 0)
	high += carry
	if high >= divisor { // the quotient itself needs two words
		return 0, api.ErrOverflow
	}
	quotient, _ := bits.Div64(high, low, divisor)
	if quotient > api.MaxCoord {
		return 0, api.ErrOverflow
	}
	if negative := (a < 0) != (b < 0) != (d < 0); negative {
		return -int(quotient), api.OK
	}
	return int(quotient), api.OK
}

// magnitude returns the absolute value of n, which for the least int is no int.
func magnitude(n int) uint64 {
	if n < 0 {
		return -uint64(n)
	}
	return uint64(n)
}

// Sqrt returns the greatest s with s * s <= n, or 0 if n is less than 1.
func Sqrt(n int) int {
	root := 0
	for bit := 1 << (bits.UintSize/2 - 1); bit > 0; bit /= 2 {
		// The quotient is compared, because the square may be too large for an int.
		if next := root + bit; next <= n/next {
			root = next
		}
	}
	return root
}
