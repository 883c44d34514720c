package flo

import (
	"math"
	"strconv"
	"strings"

	"kiln/api"
)

// Reals whose point stands at a place from leastPlain to greatestPlain are written without an exponent.
const (
	leastPlain    = -3
	greatestPlain = 15
)

// Text writes a real with as few digits as tell it from all others.
func Text(x float64) string {
	class := Class(x)
	if class == notANumber {
		return "nan"
	}
	sign := ""
	if math.Signbit(x) {
		sign = "~"
	}
	switch class {
	case infinite:
		return sign + "inf"
	case zero:
		return sign + "0.0"
	}
	digits, point := shortest(math.Abs(x))
	switch {
	case point < leastPlain || point > greatestPlain:
		return sign + withPoint(digits, 1) + "E" + wholeText(point-1)
	case point > 0:
		return sign + withPoint(digits, point)
	}
	return sign + "0." + strings.Repeat("0", -point) + digits
}

// shortest is the digits of x, and the power of 10 by which 0.digits must be multiplied.
func shortest(x float64) (string, int) {
	mantissa, exponent, _ := strings.Cut(strconv.FormatFloat(x, 'e', -1, 64), "e")
	n, _ := strconv.Atoi(exponent)
	return strings.Replace(mantissa, ".", "", 1), n + 1
}

// withPoint is the digits with a point behind the first n, and at least one digit behind it.
func withPoint(digits string, n int) string {
	if len(digits) <= n {
		return digits + strings.Repeat("0", n-len(digits)) + ".0"
	}
	return digits[:n] + "." + digits[n:]
}

// wholeText writes an exponent.
func wholeText(n int) string {
	return strings.Replace(strconv.Itoa(n), "-", "~", 1)
}

// Parse is the nearest real of a text.
func Parse(s string) (float64, api.Errno) {
	if len(s) > api.MaxLiteral {
		return 0, api.ErrLong
	}
	if !isReal(s) {
		return 0, api.ErrReal
	}
	// Of a text of this form the only error is that the number is too great, and then x is the infinity that is asked for.
	x, _ := strconv.ParseFloat(strings.ReplaceAll(s, "~", "-"), 64)
	return x, api.OK
}

// isReal tells whether s has the form of a real: digits, and a fraction or an exponent or both.
func isReal(s string) bool {
	rest, ok := pastDigits(strings.TrimPrefix(s, "~"))
	if !ok {
		return false
	}
	fraction, hasFraction := strings.CutPrefix(rest, ".")
	if hasFraction {
		if rest, ok = pastDigits(fraction); !ok {
			return false
		}
	}
	if rest == "" {
		return hasFraction
	}
	if rest[0] != 'E' && rest[0] != 'e' {
		return false
	}
	rest, ok = pastDigits(strings.TrimPrefix(rest[1:], "~"))
	return ok && rest == ""
}

// pastDigits is what stands behind the digits with which s begins, and whether there are any.
func pastDigits(s string) (string, bool) {
	rest := strings.TrimLeft(s, "0123456789")
	return rest, len(rest) < len(s)
}
