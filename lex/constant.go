package lex

import (
	"strconv"
	"strings"

	"kiln/api"
)

// number reads a number that begins with a digit, or with `~` and a digit.
func (s text) number() (api.Token, int, api.Errno) {
	kind, size := s.measure()
	switch {
	case s[size:].begins(wordByte):
		return api.Token{}, 0, api.ErrNumber
	case size > api.MaxLiteral:
		return api.Token{}, 0, api.ErrLong
	}
	return s.cut(kind, size)
}

// measure is the kind of the number with which it begins, and how many bytes that has.
func (s text) measure() (api.TokenKind, int) {
	size := s.tilde()
	if hex := s[size:].prefixed("0x", hexDigit); hex > 0 {
		return api.TInt, size + hex
	}
	size += s[size:].run(digit)
	part := s[size:].prefixed(".", digit)
	part += s[size+part:].exponent()
	if part > 0 {
		return api.TReal, size + part
	}
	return api.TInt, size
}

// tilde is 1, if it begins with a `~`, else 0.
func (s text) tilde() int {
	if strings.HasPrefix(string(s), "~") {
		return 1
	}
	return 0
}

// prefixed is how many bytes the prefix and the bytes of these kinds behind it have; 0, if it does not begin so, with one of them at least.
func (s text) prefixed(prefix string, k kinds) int {
	left, ok := strings.CutPrefix(string(s), prefix)
	if !ok || !text(left).begins(k) {
		return 0
	}
	return len(prefix) + text(left).run(k)
}

// exponent is how many bytes the exponent has with which it begins; 0, if there is none.
func (s text) exponent() int {
	for _, mark := range [4]string{"E", "e", "E~", "e~"} {
		if size := s.prefixed(mark, digit); size > 0 {
			return size
		}
	}
	return 0
}

// constant reads a string.
func (s text) constant() (api.Token, int, api.Errno) {
	said, size := s.quoted()
	switch {
	case size == 0:
		return api.Token{}, 0, api.ErrString
	case len(said) > api.MaxString:
		return api.Token{}, 0, api.ErrLong
	}
	return api.Token{Kind: api.TString, Text: string(said)}, size, api.OK
}

// character reads a `#` and a string of one byte behind it.
func (s text) character() (api.Token, int, api.Errno) {
	said, size := s[1:].quoted()
	if size == 0 || len(said) != 1 {
		return api.Token{}, 0, api.ErrString
	}
	return api.Token{Kind: api.TChar, Text: string(said)}, 1 + size, api.OK
}

// quoted is what it says from its first byte, a quote, up to the quote that ends it, and how many bytes both and what is in them have; 0, if that is no string.
func (s text) quoted() ([]byte, int) {
	var said []byte
	for at := 1; at < len(s); {
		if s[at] == '"' {
			return said, at + 1
		}
		c, size := s[at:].one()
		if size == 0 {
			return nil, 0
		}
		if c != nothing {
			said = append(said, byte(c))
		}
		at += size
	}
	return nil, 0
}

// nothing is what a gap says: no byte.
const nothing = -1

// one is the byte that the beginning of what is in a string says, and how many bytes that beginning has: 0, if it can say nothing.
func (s text) one() (int, int) {
	switch c := s[0]; {
	case c < ' ' || c > '~':
		return nothing, 0
	case c != '\\':
		return int(c), 1
	}
	c, size := s[1:].escape()
	if size == 0 {
		return nothing, 0
	}
	return c, 1 + size
}

const (
	// letters stand behind a `\` for the bytes from bell on, in their order.
	letters = "abtnvfr"
	bell    = 7
	// From control on bytes stand behind `\^` for those from 0 up to a blank.
	control = 64
)

// escape is what one is behind a `\`.
func (s text) escape() (int, int) {
	if s == "" {
		return nothing, 0
	}
	from, to, base := 0, 3, 10
	switch c := s[0]; c {
	case 'a', 'b', 't', 'n', 'v', 'f', 'r':
		return bell + strings.IndexByte(letters, c), 1
	case '"', '\\':
		return int(c), 1
	case '^':
		return s.controlled()
	case '\t', '\n', '\f', '\r', ' ':
		return nothing, s.gap()
	case 'u':
		from, to, base = 1, 5, 16
		fallthrough
	case '0', '1', '2', '3', '4', '5', '6', '7', '8', '9':
		return s.numbered(from, to, base)
	}
	return nothing, 0
}

// controlled is escape of what begins with `^`.
func (s text) controlled() (int, int) {
	if len(s) < 2 || s[1] < control || s[1] >= control+' ' {
		return nothing, 0
	}
	return int(s[1] - control), 2
}

// gap is how many bytes the blanks have with which it begins, and the `\` behind them; 0, if there is none.
func (s text) gap() int {
	size := s.run(blank)
	if !strings.HasPrefix(string(s[size:]), `\`) {
		return 0
	}
	return size + 1
}

// numbered is escape of what has a byte's number from one place up to another.
func (s text) numbered(from, to, base int) (int, int) {
	if len(s) < to {
		return nothing, 0
	}
	n, err := strconv.ParseUint(string(s[from:to]), base, 8) // of 8 bits: none above 255
	if err != nil {
		return nothing, 0
	}
	return int(n), to
}
