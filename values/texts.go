package values

import (
	"strings"

	"kiln/api"
	"kiln/fix"
	"kiln/flo"
	"kiln/str"
)

func (a Text) below(b Text) Answer   { return truth(str.Cmp(string(a), string(b)) < 0) }
func (a Text) atMost(b Text) Answer  { return truth(str.Cmp(string(a), string(b)) <= 0) }
func (a Text) above(b Text) Answer   { return truth(str.Cmp(string(a), string(b)) > 0) }
func (a Text) atLeast(b Text) Answer { return truth(str.Cmp(string(a), string(b)) >= 0) }

func (a Text) cat(b Text) Answer {
	s, e := str.Cat(string(a), string(b))
	return made(Text(s), e)
}

func (a Text) size() Answer     { return value(Int(len(a))) }
func (a Text) sub(i Int) Answer { return whole(str.Sub(string(a), int64(i))) }

func (a Text) cut(i, n Int) Answer {
	s, e := str.Cut(string(a), int64(i), int64(n))
	return made(Text(s), e)
}

func (a Text) exn() Answer { return value(newCell(1, a)) }

// scanInt is the number with which a text begins, and how many bytes that is.
func (a Text) scanInt() Answer {
	n, size, e := fix.Scan(string(a))
	if e == api.ErrDigits {
		e = api.OK // the pair is 0 and 0
	}
	return made(Tuple{Int(n), Int(size)}, e)
}

// scanReal is the real with which a text begins, and how many bytes that is.
func (a Text) scanReal() Answer {
	const blanks = "\t\n\v\f\r "
	rest := strings.TrimLeft(string(a), blanks)
	size := realSize(rest[:min(len(rest), api.MaxLiteral)])
	if size == 0 {
		return value(Tuple{Real(0), Int(0)})
	}
	x, e := flo.Parse(rest[:size])
	return made(Tuple{Real(x), Int(len(a) - len(rest) + size)}, e)
}

// realSize is how long the longest beginning of a text is that is a real; 0, if none is.
func realSize(s string) int {
	size := 0
	end, ok := digitsEnd(s, afterSign(s, 0))
	if !ok {
		return size
	}
	if end < len(s) && s[end] == '.' {
		if fraction, ok := digitsEnd(s, end+1); ok {
			size, end = fraction, fraction
		}
	}
	if end < len(s) && (s[end] == 'E' || s[end] == 'e') {
		if exponent, ok := digitsEnd(s, afterSign(s, end+1)); ok {
			size = exponent
		}
	}
	return size
}

// afterSign is the place behind a sign, if one stands at a place.
func afterSign(s string, at int) int {
	if at < len(s) && s[at] == '~' {
		return at + 1
	}
	return at
}

// digitsEnd is the place behind the digits at a place, and whether there are any.
func digitsEnd(s string, at int) (int, bool) {
	end := at
	for end < len(s) && s[end] >= '0' && s[end] <= '9' {
		end++
	}
	return end, end > at
}
