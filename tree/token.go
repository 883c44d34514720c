package tree

import (
	"slices"

	"kiln/api"
	"kiln/lex"
)

// written tells whether the token is one that lex writes, or would write if its Text were shorter.
func written(t api.Token) bool {
	if writes(t.Kind, t.Text, t.Path) {
		return true
	}
	switch t.Kind {
	case api.TString:
		return writes(t.Kind, "", t.Path) // a string says any bytes
	case api.TReal:
		return writes(t.Kind, oneDigit(t.Text), t.Path)
	case api.TName:
		if !writes(t.Kind, "x", t.Path) {
			return false
		}
		return writes(t.Kind, eachOnce(t.Text), nil)
	case api.TTyvar, api.TInt:
		return writes(t.Kind, eachOnce(t.Text), t.Path)
	}
	return false
}

func writes(kind api.TokenKind, text string, path []string) bool {
	_, e := lex.Write(api.Token{Kind: kind, Text: text, Path: path})
	return e == api.OK
}

// oneDigit is the text with one digit for digits side by side: it is a real's text just if the text is.
func oneDigit(s string) string {
	var b []byte
	for i := range len(s) {
		if i == 0 || !isDigit(s[i]) || !isDigit(s[i-1]) {
			b = append(b, s[i])
		}
	}
	return string(b)
}

func isDigit(c byte) bool { return c >= '0' && c <= '9' }

// beginning is so many bytes that no reserved word has more, and that those behind them may stand in any order in a name or an int.
const beginning = 16

// eachOnce is the text with each byte behind its beginning once: it is a name's, a type variable's or an int's text just if the text is.
func eachOnce(s string) string {
	if len(s) <= beginning {
		return s
	}
	b := []byte(s[:beginning])
	for i := beginning; i < len(s); i++ {
		if !slices.Contains(b[beginning:], s[i]) {
			b = append(b, s[i])
		}
	}
	return string(b)
}
