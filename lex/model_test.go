package lex

import (
	"encoding/hex"
	"fmt"
	"math/rand"
	"regexp"
	"slices"
	"strconv"
	"strings"
	"testing"

	"kiln/api"
)

// The chapter's words as patterns: each takes as much as it can.
var (
	letterName = longest(`[A-Za-z][A-Za-z0-9_']*`)
	longName   = longest("[A-Za-z][A-Za-z0-9_']*(\\.[A-Za-z][A-Za-z0-9_']*)*(\\.[!%&$#+\\-/:<=>?@\\\\~`^|*]+)?")
	signName   = longest("[!%&$#+\\-/:<=>?@\\\\~`^|*]+")
	whole      = longest(`~?([0-9]+|0x[0-9A-Fa-f]+)`)
	fraction   = longest(`~?[0-9]+(\.[0-9]+|(\.[0-9]+)?[Ee]~?[0-9]+)`)
	tyvar      = longest(`'[A-Za-z0-9_']*`)
	loneSign   = longest(`[()\[\]{},;_]|\.\.\.`)
	blanks     = longest(`[\t\n\f\r ]+`)
	stringText = longest(`"([ !#-\[\]-~]|\\[abtnvfr"\\]|\\\^[@-_]|\\([01][0-9][0-9]|2[0-4][0-9]|25[0-5])|\\u00[0-9a-fA-F][0-9a-fA-F]|\\[\t\n\f\r ]+\\)*"`)
	charText   = longest(`#"([ !#-\[\]-~]|\\[abtnvfr"\\]|\\\^[@-_]|\\([01][0-9][0-9]|2[0-4][0-9]|25[0-5])|\\u00[0-9a-fA-F][0-9a-fA-F]|\\[\t\n\f\r ]+\\)*"`)
	stringPart = regexp.MustCompile(`[^\\]|\\u....|\\\d\d\d|\\\^.|\\[\t\n\f\r ]+\\|\\.`)
	wordBehind = regexp.MustCompile(`^[A-Za-z0-9_']`)
)

// longest is a pattern that a text begins with.
func longest(s string) *regexp.Regexp {
	r := regexp.MustCompile(`^(` + s + `)`)
	r.Longest()
	return r
}

// words are the reserved words, reservedSigns the reserved signs, as the chapter has them.
var (
	words         = strings.Fields("abstype and andalso as case datatype do else end eqtype exception fn fun functor handle if in include infix infixr let local nonfix of op open orelse raise rec sharing sig signature struct structure then type val where while with withtype")
	reservedSigns = strings.Fields("( ) [ ] { } , ; _ ... : :> | = => -> #")
)

// isReserved asks both lists.
func isReserved(s string) bool { return slices.Contains(words, s) || slices.Contains(reservedSigns, s) }

// commentEnd is the place behind the comment with which s begins; 0, if it has none.
func commentEnd(s string) int {
	at := 2
	for {
		open, end := strings.Index(s[at:], "(*"), strings.Index(s[at:], "*)")
		if end < 0 {
			return 0
		}
		if open < 0 || end < open {
			return at + end + 2
		}
		inner := commentEnd(s[at+open:])
		if inner == 0 {
			return 0
		}
		at += open + inner
	}
}

// says is what a string's text, with its quotes, stands for.
func says(s string) string {
	var b strings.Builder
	for _, p := range stringPart.FindAllString(s[1:len(s)-1], -1) {
		switch {
		case p[0] != '\\':
			b.WriteString(p)
		case p[1] == 'u':
			x, _ := hex.DecodeString(p[4:])
			b.Write(x)
		case p[1] >= '0' && p[1] <= '9':
			n, _ := strconv.Atoi(p[1:])
			b.WriteByte(byte(n))
		case p[1] == '^':
			b.WriteByte(p[2] - 64)
		case strings.ContainsAny(p[1:2], "\t\n\f\r "):
		default:
			b.WriteByte(map[byte]byte{'a': 7, 'b': 8, 't': 9, 'n': 10, 'v': 11, 'f': 12, 'r': 13, '"': '"', '\\': '\\'}[p[1]])
		}
	}
	return b.String()
}

// modelOne is the token with which s begins, its size, and its fault.
func modelOne(s string) (api.Token, int, api.Errno) {
	var none api.Token
	first := letterName.FindString(s)
	switch {
	case isReserved(first):
		return api.Token{Kind: api.TReserved, Text: first}, len(first), 0
	case first != "":
		all := longName.FindString(s)
		parts := strings.Split(all, ".")
		last := parts[len(parts)-1]
		if slices.ContainsFunc(parts, isReserved) || letterName.MatchString(last) && strings.HasPrefix(s[len(all):], ".") {
			return none, 0, api.ErrName
		}
		return api.Token{Kind: api.TName, Text: last, Path: parts[:len(parts)-1]}, len(all), 0
	case s[0] == '"':
		return modelString(api.TString, s, stringText.FindString(s), 0)
	case strings.HasPrefix(s, `#"`):
		return modelString(api.TChar, s, charText.FindString(s), 1)
	}
	if n := max(len(whole.FindString(s)), len(fraction.FindString(s))); n > 0 {
		kind := api.TInt
		switch {
		case n > len(whole.FindString(s)):
			kind = api.TReal
		}
		switch {
		case wordBehind.MatchString(s[n:]):
			return none, 0, api.ErrNumber
		case n > 4096:
			return none, 0, api.ErrLong
		}
		return api.Token{Kind: kind, Text: s[:n]}, n, 0
	}
	if n := len(tyvar.FindString(s)); n > 0 {
		return api.Token{Kind: api.TTyvar, Text: s[:n]}, n, 0
	}
	n := max(len(signName.FindString(s)), len(loneSign.FindString(s)))
	switch {
	case n == 0:
		return none, 0, api.ErrByte
	case isReserved(s[:n]):
		return api.Token{Kind: api.TReserved, Text: s[:n]}, n, 0
	}
	return api.Token{Kind: api.TName, Text: s[:n]}, n, 0
}

// modelString is modelOne of a string or a char, of which all is the text.
func modelString(kind api.TokenKind, s, all string, quote int) (api.Token, int, api.Errno) {
	if all == "" {
		return api.Token{}, 0, api.ErrString
	}
	text := says(all[quote:])
	switch {
	case kind == api.TChar && len(text) != 1:
		return api.Token{}, 0, api.ErrString
	case len(text) > 65536:
		return api.Token{}, 0, api.ErrLong
	}
	return api.Token{Kind: kind, Text: text}, len(all), 0
}

// model is Scan by the patterns.
func model(s string) ([]api.Token, int, int, api.Errno) {
	if len(s) > 1048576 {
		return nil, 0, 0, api.ErrLong
	}
	var l []api.Token
	for at := 0; at < len(s); {
		line, column := 1+strings.Count(s[:at], "\n"), at-strings.LastIndex(s[:at], "\n")
		if n := len(blanks.FindString(s[at:])); n > 0 {
			at += n
			continue
		}
		if strings.HasPrefix(s[at:], "(*") {
			n := commentEnd(s[at:])
			if n == 0 {
				return nil, line, column, api.ErrComment
			}
			at += n
			continue
		}
		t, n, e := modelOne(s[at:])
		if e != 0 {
			return nil, line, column, e
		}
		t.Line, t.Column = line, column
		l = append(l, t)
		at += n
	}
	return l, 0, 0, 0
}

// bare is tokens without their places.
func bare(l []api.Token) []api.Token {
	out := slices.Clone(l)
	for i := range out {
		out[i].Line, out[i].Column = 0, 0
	}
	return out
}

// sameTokens tells whether both lists are the same, places and all.
func sameTokens(a, b []api.Token) bool {
	return slices.EqualFunc(a, b, func(x, y api.Token) bool {
		return x.Kind == y.Kind && x.Text == y.Text && slices.Equal(x.Path, y.Path) && x.Line == y.Line && x.Column == y.Column
	})
}

// check holds Scan against the patterns, and asks what follows from it: places rise, and what is written is read as it was.
func check(t *testing.T, s string) {
	t.Helper()
	l, line, column, e := Scan(s)
	want, wantLine, wantColumn, wantErr := model(s)
	if !sameTokens(l, want) || line != wantLine || column != wantColumn || e != wantErr {
		t.Errorf("Scan(%q) = %s, %d, %d, %d; want %s, %d, %d, %d", head(s), show(l), line, column, e, show(want), wantLine, wantColumn, wantErr)
		return
	}
	for i := 1; i < len(l); i++ {
		if l[i-1].Line > l[i].Line || l[i-1].Line == l[i].Line && l[i-1].Column >= l[i].Column {
			t.Errorf("Scan(%q): places do not rise: %s", head(s), show(l))
		}
	}
	if e == 0 {
		checkBack(t, l)
	}
}

// checkBack reads what was written of tokens.
func checkBack(t *testing.T, l []api.Token) {
	t.Helper()
	s, e := Join(l)
	if e != 0 {
		t.Errorf("Join(%s): %d", show(l), e)
	}
	back, line, column, e := Scan(s)
	if !sameTokens(bare(back), bare(l)) || line != 0 || column != 0 || e != 0 {
		t.Errorf("Scan(%q) = %s, %d, %d, %d; want %s", head(s), show(back), line, column, e, show(l))
	}
}

// head is what of a long text is worth being shown.
func head(s string) string {
	if len(s) > 60 {
		return s[:60] + ".."
	}
	return s
}

// show is what of many tokens is worth being shown.
func show(l []api.Token) string {
	if len(l) > 8 {
		l = l[:8]
	}
	return head(fmt.Sprintf("%v", l))
}

// each goes through all texts of up to n bytes of an alphabet.
func each(alphabet string, n int, do func(string)) {
	texts := []string{""}
	do("")
	for range n {
		var longer []string
		for _, s := range texts {
			for i := range len(alphabet) {
				longer = append(longer, s+alphabet[i:i+1])
				do(s + alphabet[i:i+1])
			}
		}
		texts = longer
	}
}

// P4.1, P4.4, P4.5: all short texts of the bytes that matter together.
func TestShortTexts(t *testing.T) {
	for alphabet, n := range map[string]int{
		"A.+=_'1 ":     4, // names and long names
		"if.:>a":       5, // reserved words and signs among names
		"01xEe.~a":     5, // numbers
		"F0x~g.":       5,
		"\"\\#an 02^":  5, // strings
		"\"#\\u04\nF":  5,
		"(*)a\n":       7, // comments
		"#\"a~5 \n":    5,
		".;_(1":        5,
		"-=>:|#*~+":    4,
		"\t\n\v\f\r a": 4,
	} {
		each(alphabet, n, func(s string) { check(t, s) })
	}
}

// P4.1: every byte alone, every two, and every byte behind, within and ahead of each kind of token.
func TestAllBytes(t *testing.T) {
	tokens := []string{"val", "ab", "+", "'a", "12", "0x1F", "1.5", "1E5", "1.5E~3", `"a\n\065"`, `#"a"`, "...", "(", "A.b", "A.B.+", "(* a *)", "~5", "#", `"\   \\^A\u0041"`, "=>"}
	for a := range 256 {
		check(t, string([]byte{byte(a)}))
		for b := range 256 {
			check(t, string([]byte{byte(a), byte(b)}))
		}
		for _, s := range tokens {
			for i := range len(s) + 1 {
				check(t, s[:i]+string([]byte{byte(a)})+s[i:])
				if i < len(s) {
					check(t, s[:i]+string([]byte{byte(a)})+s[i+1:])
				}
			}
		}
	}
}

// pieces are of what random texts are made.
var pieces = append(append(strings.Fields(`a A x' b_1 A.b A.B.c List.@ S.+ 'a ''a ' 1 12 ~5 0x1F ~0xa 1.5 1E5 1.5E~3 ~2.0e7 "" "a" "a\tb" #"x" #"\n" "\065\u0041\^A\"\\" + - * :: := ~ <> -> -~ ## \ ^ ! . .. 0x 1E "\q" #"" A. A.val .b`), words...), append(reservedSigns, " ", "\n", "\t", "(* *)", "(*(**)\n*)", "(*", "*)", "(*)", "\v", "\x00", "\xff", "\"", "\"\\ \n \\\"", "\\")...)

// P4.1, P4.4, P4.5: random texts.
func TestRandomTexts(t *testing.T) {
	r := rand.New(rand.NewSource(4))
	for i := range 20000 {
		var b strings.Builder
		for range 1 + r.Intn(12) {
			b.WriteString(pieces[r.Intn(len(pieces))])
			if i%2 == 0 || r.Intn(3) == 0 {
				b.WriteString(" ")
			}
		}
		check(t, b.String())
	}
}

// FuzzScan holds Scan against the patterns.
func FuzzScan(f *testing.F) {
	for _, s := range pieces {
		f.Add(s)
	}
	f.Add("val x' = ~5 : int (* (* *) *) \"a\\tb\\   \\c\\065\"")
	f.Fuzz(func(t *testing.T, s string) { check(t, s) })
}
