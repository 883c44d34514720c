package str

import (
	"strconv"
	"strings"

	"kiln/api"
)

const (
	// letters are those of the characters from bell on, in their order.
	letters = "abtnvfr"
	bell    = 7
	// control is how far above a control character the byte is that stands for it behind `\^`.
	control = 64
	// blanks may stand in a gap: the bytes 9, 10, 12, 13 and 32.
	blanks = "\t\n\f\r "
)

// Escape writes a string as a program would have it, without quotes.
func Escape(s string) (string, api.Errno) {
	if !Right(s) {
		return "", api.ErrArg
	}
	var text []byte
	for i := range len(s) {
		text = writeOne(text, s[i])
	}
	if len(text) > api.MaxString {
		return "", api.ErrLong
	}
	return string(text), api.OK
}

// writeOne puts a character behind a constant's text.
func writeOne(text []byte, c byte) []byte {
	switch {
	case c == '"' || c == '\\':
		text = append(text, '\\')
		fallthrough
	case plain(c):
		return append(text, c)
	case c >= bell && c < bell+byte(len(letters)):
		return append(text, '\\', letters[c-bell])
	case c < ' ':
		return append(text, '\\', '^', c+control)
	}
	return append(text, '\\', '0'+c/100, '0'+c/10%10, '0'+c%10)
}

// plain tells whether a byte stands for itself in a constant.
func plain(c byte) bool { return c >= ' ' && c <= '~' && c != '"' && c != '\\' }

// Read is the string that a program's constant stands for; with an error the place.
func Read(s string) (string, int, api.Errno) {
	var all []byte
	long := false
	for rest := s; rest != ""; {
		var size int
		all, size = readOne(all, rest)
		if size == 0 {
			return "", len(s) - len(rest), api.ErrConstant
		}
		rest = rest[size:]
		// What is too long is read on, since a fault further on is told instead; but it need not be kept.
		if len(all) > api.MaxString {
			all, long = all[:api.MaxString], true
		}
	}
	if long {
		return "", 0, api.ErrLong
	}
	return string(all), 0, api.OK
}

// readOne puts behind all what the beginning of s, which is not empty, stands for, and tells how many bytes that beginning has: 0, if it can stand for nothing.
func readOne(all []byte, s string) ([]byte, int) {
	if plain(s[0]) {
		return append(all, s[0]), 1
	}
	if s[0] != '\\' {
		return all, 0
	}
	c, size := escape(s[1:])
	switch {
	case size == 0:
		return all, 0
	case c == nothing:
		return all, 1 + size
	}
	return append(all, byte(c)), 1 + size
}

// nothing is what a gap stands for: no character.
const nothing = -1

// escape is the character for which the beginning of s stands behind a `\`, and how many bytes it has: 0, if it can stand for nothing.
func escape(s string) (int, int) {
	if s == "" {
		return nothing, 0
	}
	from, to, base := 0, 3, 10
	switch c := s[0]; c {
	case 'a', 'b', 't', 'n', 'v', 'f', 'r':
		return bell + strings.IndexByte(letters, c), 1
	case '"', '\\':
		return int(c), 1
	case '^':
		return controlled(s)
	case '\t', '\n', '\f', '\r', ' ':
		return nothing, gap(s)
	case 'u':
		from, to, base = 1, 5, 16
		fallthrough
	case '0', '1', '2', '3', '4', '5', '6', '7', '8', '9':
		return numbered(s, from, to, base)
	}
	return nothing, 0
}

// controlled is escape of a text that begins with `^`.
func controlled(s string) (int, int) {
	if len(s) < 2 || s[1] < control || s[1] >= control+' ' {
		return nothing, 0
	}
	return int(s[1] - control), 2
}

// gap is how many bytes the blanks at the beginning of s and the `\` behind them have; 0, if there is none.
func gap(s string) int {
	rest, ok := strings.CutPrefix(strings.TrimLeft(s, blanks), `\`)
	if !ok {
		return 0
	}
	return len(s) - len(rest)
}

// numbered is escape of a text whose bytes from one place up to another are a character's number.
func numbered(s string, from, to, base int) (int, int) {
	if len(s) < to {
		return nothing, 0
	}
	n, err := strconv.ParseUint(s[from:to], base, 8) // of 8 bits: none above 255
	if err != nil {
		return nothing, 0
	}
	return int(n), to
}
