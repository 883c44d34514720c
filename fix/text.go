package fix

import (
	"strconv"
	"strings"

	"kiln/api"
)

const (
	// farthest is the greatest amount of any number: that of MinFix.
	farthest uint64 = -api.MinFix
	// blanks may stand ahead of a number that is scanned: the bytes 9 to 13 and 32.
	blanks = "\t\n\v\f\r "
)

// Text writes a number.
func Text(a int64) (string, api.Errno) {
	if !Right(a) {
		return "", api.ErrArg
	}
	if a < 0 {
		return "~" + strconv.FormatInt(-a, 10), api.OK
	}
	return strconv.FormatInt(a, 10), api.OK
}

// Constant reads a constant of a program.
func Constant(s string) (int64, api.Errno) {
	s, below := strings.CutPrefix(s, "~")
	s, hex := strings.CutPrefix(s, "0x")
	base := uint64(10)
	if hex {
		base = 16
	}
	amount, size := leading(s, base)
	if size == 0 || size < len(s) {
		return 0, api.ErrDigits
	}
	return signed(amount, below)
}

// Scan reads the number with which a text begins, and how many bytes that are.
func Scan(s string) (int64, int, api.Errno) {
	rest := strings.TrimLeft(s, blanks)
	below := false
	if rest != "" && strings.Contains("~-+", rest[:1]) {
		below = rest[0] != '+'
		rest = rest[1:]
	}
	amount, size := leading(rest, 10)
	if size == 0 {
		return 0, 0, api.ErrDigits
	}
	n, e := signed(amount, below)
	return n, len(s) - len(rest) + size, e
}

// leading reads the digits with which s begins: what they say, and how many they are. Whatever is above farthest is told as farthest + 1.
func leading(s string, base uint64) (uint64, int) {
	amount := uint64(0)
	for i, c := range s {
		d := digit(c)
		if d >= base {
			return amount, i
		}
		// Holding it against the bound ahead of time keeps all this within a word, however many digits follow.
		if amount > (farthest-d)/base {
			amount = farthest + 1
		} else {
			amount = amount*base + d
		}
	}
	return amount, len(s)
}

// digit is what a character says as a digit; 16, which no base has, if it is none.
func digit(c rune) uint64 {
	switch {
	case c >= '0' && c <= '9':
		return uint64(c - '0')
	case c >= 'a' && c <= 'f':
		return uint64(c-'a') + 10
	case c >= 'A' && c <= 'F':
		return uint64(c-'A') + 10
	}
	return 16
}

// signed is the number of that amount, below 0 or not.
func signed(amount uint64, below bool) (int64, api.Errno) {
	n := int64(amount) // at most farthest + 1, so it fits
	if below {
		n = -n
	}
	return answer(n)
}
