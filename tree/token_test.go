package tree

import (
	"math"
	"strings"
	"testing"

	"kiln/api"
	"kiln/lex"
)

// alone is a program with the token as an expression, or where else it can stand.
func alone(k api.Token) []api.Token {
	word := func(s string) api.Token { return api.Token{Kind: api.TReserved, Text: s} }
	name := func(s string) api.Token { return api.Token{Kind: api.TName, Text: s} }
	if k.Kind == api.TTyvar {
		return []api.Token{word("type"), name("t"), word("="), k}
	}
	return []api.Token{word("val"), name("x"), word("="), k}
}

// wrongTokens are some that lex does not write.
func wrongTokens() []api.Token {
	l := []api.Token{
		{}, {Kind: 99}, {Kind: -1}, {Kind: 8, Text: "x"}, {Kind: 0, Text: "x"}, {Kind: math.MaxInt, Text: "x"},
		{Kind: api.TReserved}, {Kind: api.TReserved, Text: "x"}, {Kind: api.TReserved, Text: "+"}, {Kind: api.TReserved, Text: "Val"}, {Kind: api.TReserved, Text: "val "}, {Kind: api.TReserved, Text: "valx"}, {Kind: api.TReserved, Text: strings.Repeat("val", 100000)}, {Kind: api.TReserved, Text: "val", Path: []string{"A"}},
		{Kind: api.TName}, {Kind: api.TName, Text: "val"}, {Kind: api.TName, Text: "="}, {Kind: api.TName, Text: "1"}, {Kind: api.TName, Text: "a b"}, {Kind: api.TName, Text: "a+"}, {Kind: api.TName, Text: "_"}, {Kind: api.TName, Text: "'a"}, {Kind: api.TName, Text: "A.b"}, {Kind: api.TName, Text: "é"}, {Kind: api.TName, Text: "(*"},
		{Kind: api.TName, Text: "x", Path: []string{""}}, {Kind: api.TName, Text: "x", Path: []string{"+"}}, {Kind: api.TName, Text: "x", Path: []string{"val"}}, {Kind: api.TName, Text: "x", Path: []string{"A", "b.c"}}, {Kind: api.TName, Text: "end", Path: []string{"A"}}, {Kind: api.TName, Text: "=", Path: []string{"A"}}, {Kind: api.TName, Path: []string{"A"}},
		{Kind: api.TTyvar}, {Kind: api.TTyvar, Text: "a"}, {Kind: api.TTyvar, Text: "'+"}, {Kind: api.TTyvar, Text: "'a", Path: []string{"A"}},
		{Kind: api.TInt}, {Kind: api.TInt, Text: "a"}, {Kind: api.TInt, Text: "-1"}, {Kind: api.TInt, Text: "~"}, {Kind: api.TInt, Text: "1.5"}, {Kind: api.TInt, Text: "0x"}, {Kind: api.TInt, Text: "1a"}, {Kind: api.TInt, Text: "1", Path: []string{"A"}}, {Kind: api.TInt, Text: " 1"},
		{Kind: api.TReal}, {Kind: api.TReal, Text: "1"}, {Kind: api.TReal, Text: "1."}, {Kind: api.TReal, Text: ".5"}, {Kind: api.TReal, Text: "1E"}, {Kind: api.TReal, Text: "1.5", Path: []string{"A"}}, {Kind: api.TReal, Text: "0x1"}, {Kind: api.TReal, Text: "00x1"},
		{Kind: api.TString, Text: "a", Path: []string{"A"}},
		{Kind: api.TChar}, {Kind: api.TChar, Text: "ab"}, {Kind: api.TChar, Text: "a", Path: []string{"A"}}, {Kind: api.TChar, Text: strings.Repeat("a", 70000)},
	}
	long := strings.Repeat
	for _, s := range []string{long("a", 2000000) + "+", long("+", 2000000) + "a", long("a", 2000000) + " ", "+" + long("a", 2000000), long("x.", 1000000) + "x", long("_", 2000000), long("1", 2000000)} {
		l = append(l, api.Token{Kind: api.TName, Text: s}, api.Token{Kind: api.TName, Text: s, Path: []string{"A"}}, api.Token{Kind: api.TTyvar, Text: "'" + s + "+"})
	}
	for _, s := range []string{long("1", 5000) + "a", "0x" + long("F", 5000) + "G", long("0", 5000) + "x1", long("1", 5000) + "." + long("1", 5000), "~~" + long("1", 5000), long("1", 5000) + "~"} {
		l = append(l, api.Token{Kind: api.TInt, Text: s})
	}
	for _, s := range []string{long("1", 5000), long("1", 5000) + ".", long("1", 5000) + ".1.1", long("1", 5000) + "E" + long("1", 5000) + "E1", long("1.", 5000) + "1", long("1", 5000) + "E.1", "0x" + long("1", 5000), long("1", 5000) + "E~", long("1", 5000) + ".5a"} {
		l = append(l, api.Token{Kind: api.TReal, Text: s})
	}
	tooLong := long("A", api.MaxText-1)
	l = append(l, api.Token{Kind: api.TName, Text: "x", Path: []string{tooLong}}, api.Token{Kind: api.TName, Text: "x", Path: []string{"A", tooLong}}, api.Token{Kind: api.TString, Text: long("a", 70000), Path: []string{"A"}})
	return l
}

// P5.1: ErrArg of a token that lex does not write, wherever it stands, ahead of all other faults.
func TestWrongTokens(t *testing.T) {
	for _, k := range wrongTokens() {
		if written(k) {
			t.Errorf("token %d %q", k.Kind, head70(k.Text))
		}
	}
	bad := api.Token{Kind: api.TName, Text: "val", Line: 3, Column: 4}
	fine := scan(t, "val x = 1")
	for i := range len(fine) + 1 {
		l := append(append(append([]api.Token{}, fine[:i]...), bad), fine[i:]...)
		sameFault(t, l, 0, 0, api.ErrArg)
	}
	for _, k := range wrongTokens()[:60] {
		k.Line, k.Column = 5, 5
		sameFault(t, []api.Token{k}, 0, 0, api.ErrArg)
		sameFault(t, append(scan(t, "val = 1 end"), k), 0, 0, api.ErrArg)                                    // ErrSyntax ahead of it
		sameFault(t, append([]api.Token{k}, scan(t, "infix 5 ## val x = 1 ## 2 :: 3")...), 0, 0, api.ErrArg) // ErrFixity behind it
		deep := scan(t, "val x = "+strings.Repeat("(", 2000))
		sameFault(t, append(deep, k), 0, 0, api.ErrArg)
	}
}

// P5.1: a token's Text may be longer than lex writes it.
func TestLongTexts(t *testing.T) {
	long := strings.Repeat
	for _, k := range []api.Token{
		{Kind: api.TInt, Text: long("1", 4096)}, {Kind: api.TInt, Text: long("1", 4097)}, {Kind: api.TInt, Text: "~" + long("0123456789", 1000)}, {Kind: api.TInt, Text: "~0x" + long("0123456789abcdefABCDEF", 1000)}, {Kind: api.TInt, Text: long("9", 2000000)},
		{Kind: api.TReal, Text: long("1", 5000) + ".5"}, {Kind: api.TReal, Text: long("0", 5000) + "." + long("9", 5000)}, {Kind: api.TReal, Text: "~1." + long("0123456789", 1000) + "e~" + long("9", 5000)}, {Kind: api.TReal, Text: long("1", 5000) + "E" + long("1", 2000000)},
		{Kind: api.TString, Text: long("a", 65536)}, {Kind: api.TString, Text: long("a\x00\xff\"\\\n", 20000)}, {Kind: api.TString, Text: long("a", 2000000)},
		{Kind: api.TTyvar, Text: "'" + long("a'_1", 500000)}, {Kind: api.TTyvar, Text: "''" + long("'", 2000000)},
		{Kind: api.TName, Text: long("aB'_1", 500000)}, {Kind: api.TName, Text: long("!%&$#+-/:<=>?@\\~`^|*", 100000)},
		{Kind: api.TName, Text: long("aB'_1", 500000), Path: []string{"A", "B"}}, {Kind: api.TName, Text: long("=", 2000000), Path: []string{"A"}},
		{Kind: api.TName, Text: "x", Path: []string{long("A", api.MaxText-2)}}, {Kind: api.TName, Text: "xyz", Path: []string{long("A", api.MaxText-2)}}, {Kind: api.TName, Text: long("f", 1000) + "if", Path: []string{"A", long("B", api.MaxText-4)}},
		{Kind: api.TName, Text: long("if", 8) + "if"}, {Kind: api.TName, Text: long("i", 16) + "f" + long("f", api.MaxText)}, {Kind: api.TName, Text: long("=", 17)},
	} {
		l, root, _, _, e := Parse(alone(k))
		if e != api.OK || Check(l, root) != api.OK {
			t.Errorf("Parse of token %d %q: %d", k.Kind, head70(k.Text), e)
			continue
		}
		found := false
		for _, n := range l {
			found = found || n.Text == k.Text && len(n.Path) == len(k.Path)
		}
		if !found {
			t.Errorf("Parse of token %d %q: no node has it", k.Kind, head70(k.Text))
		}
	}
}

// P5.1: each reserved word and sign is a token, though no choice has some of them.
func TestReservedTokens(t *testing.T) {
	for _, s := range strings.Fields("abstype and andalso as case datatype do else end eqtype exception fn fun functor handle if in include infix infixr let local nonfix of op open orelse raise rec sharing sig signature struct structure then type val where while with withtype ( ) [ ] { } , ; _ ... : :> | = => -> #") {
		k := api.Token{Kind: api.TReserved, Text: s, Line: 7, Column: 8}
		if !lex.Reserved(s) || !written(k) {
			t.Errorf("%q", s)
		}
		if s == ";" {
			continue
		}
		sameFault(t, []api.Token{k}, 7, 8, api.ErrSyntax)
	}
}
