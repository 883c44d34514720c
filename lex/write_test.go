package lex

import (
	"fmt"
	"math"
	"math/rand"
	"strings"
	"testing"

	"kiln/api"
)

// sameWrite fails the test, if Write answers otherwise than it must.
func sameWrite(t *testing.T, k api.Token, want string, wantErr api.Errno) {
	t.Helper()
	if s, e := Write(k); s != want || e != wantErr {
		t.Errorf("Write(%s) = %q, %d; want %q, %d", show([]api.Token{k}), head(s), e, head(want), wantErr)
	}
}

// P4.3: a token of each kind as it is written, wherever it stands.
func TestWrite(t *testing.T) {
	for _, s := range append(append([]string{}, words...), reservedSigns...) {
		sameWrite(t, reserved(s), s, api.OK)
	}
	for _, s := range strings.Fields("a x' b_1 A.b A.B.c List.@ + :: A.:: A.b.+ ~ -~ ## \\ A.\\ * S.* valx") {
		sameWrite(t, name(s), s, api.OK)
		k := name(s)
		k.Line, k.Column = -5, math.MaxInt
		sameWrite(t, k, s, api.OK)
		k.Path = append([]string{}, k.Path...)
		sameWrite(t, k, s, api.OK)
	}
	for _, s := range strings.Fields("'a ''a ' '1 '_ 'val") {
		sameWrite(t, tyvarOf(s), s, api.OK)
	}
	for _, s := range strings.Fields("0 12 ~5 0x1F ~0xa 007") {
		sameWrite(t, intOf(s), s, api.OK)
		sameWrite(t, realOf(s), "", api.ErrArg)
	}
	for _, s := range strings.Fields("1.5 ~1.5 1E5 1e~5 1.5E~3") {
		sameWrite(t, realOf(s), s, api.OK)
		sameWrite(t, intOf(s), "", api.ErrArg)
	}
	sameWrite(t, stringOf(""), `""`, api.OK)
	sameWrite(t, stringOf("a\n\"\\\x00\xff~\x7f 1"), `"a\010\"\\\000\255~\127 1"`, api.OK)
	for n := range 256 {
		c := string([]byte{byte(n)})
		want := c
		switch {
		case c == `"` || c == `\`:
			want = `\` + c
		case n < 32 || n > 126:
			want = fmt.Sprintf(`\%03d`, n)
		}
		sameWrite(t, charOf(c), `#"`+want+`"`, api.OK)
		sameWrite(t, stringOf(c), `"`+want+`"`, api.OK)
		sameWrite(t, stringOf("0"+c+"0"+c), `"0`+want+`0`+want+`"`, api.OK)
	}
}

// P4.3: what no text's Scan gives.
func TestWriteWrong(t *testing.T) {
	all := strings.Fields(`a val + = 'a 5 ~5 0x1F 1.5 1E5 "a" #"a" ... .. . A.b A. .b A.+ A.val ( (**) 12a 1E \q "`)
	all = append(all, "", " ", "a ", " a", "a b", "\n", "(**)a", "a(**)", "\x00", "é", "a\x00", "5 ", " 5", "+ ", "= ", "val ", "1 2", "'a ", "(* *)")
	kinds := []api.TokenKind{api.TReserved, api.TName, api.TTyvar, api.TInt, api.TReal}
	for _, s := range all {
		right := api.TokenKind(0)
		if l, _, _, e := Scan(s); e == api.OK && len(l) == 1 && l[0].Text == s {
			right = l[0].Kind
		}
		for _, k := range kinds {
			want, wantErr := s, api.OK
			if k != right {
				want, wantErr = "", api.ErrArg
			}
			sameWrite(t, api.Token{Kind: k, Text: s}, want, wantErr)
			if k != api.TName {
				sameWrite(t, api.Token{Kind: k, Text: s, Path: []string{"A"}}, "", api.ErrArg)
				sameWrite(t, api.Token{Kind: k, Text: s, Path: []string{""}}, "", api.ErrArg)
			}
		}
		for _, k := range []api.TokenKind{0, -1, 8, 9, math.MaxInt, math.MinInt} {
			sameWrite(t, api.Token{Kind: k, Text: s}, "", api.ErrArg)
		}
		if len(s) != 1 {
			sameWrite(t, charOf(s), "", api.ErrArg)
		}
		sameWrite(t, api.Token{Kind: api.TString, Text: s, Path: []string{"A"}}, "", api.ErrArg)
		sameWrite(t, api.Token{Kind: api.TChar, Text: s, Path: []string{"A"}}, "", api.ErrArg)
		if right != api.TName || s == "+" {
			sameWrite(t, api.Token{Kind: api.TName, Text: "x", Path: []string{s}}, "", api.ErrArg)
			sameWrite(t, api.Token{Kind: api.TName, Text: "x", Path: []string{"A", s}}, "", api.ErrArg)
			sameWrite(t, api.Token{Kind: api.TName, Text: "+", Path: []string{s, "A"}}, "", api.ErrArg)
		}
	}
	sameWrite(t, api.Token{}, "", api.ErrArg)
	sameWrite(t, api.Token{Kind: api.TReal, Text: "5", Path: []string{"1"}}, "", api.ErrArg)
	sameWrite(t, api.Token{Kind: api.TName, Text: "b.c", Path: []string{"A"}}, "", api.ErrArg)
	sameWrite(t, api.Token{Kind: api.TName, Text: "c", Path: []string{"A.B"}}, "", api.ErrArg)
	sameWrite(t, api.Token{Kind: api.TName, Text: "", Path: []string{"A"}}, "", api.ErrArg)
	sameWrite(t, api.Token{Kind: api.TReserved, Text: ".", Path: []string{"", ""}}, "", api.ErrArg)
}

// P4.3: what is as long as Scan can give it, and one byte longer.
func TestWriteLong(t *testing.T) {
	long := func(c string, n int) string { return strings.Repeat(c, n) }
	for _, c := range []struct {
		kind api.TokenKind
		byte string
		most int
	}{
		{api.TName, "a", api.MaxText}, {api.TName, "+", api.MaxText}, {api.TTyvar, "'", api.MaxText}, {api.TInt, "1", api.MaxLiteral},
	} {
		for _, n := range []int{c.most - 1, c.most} {
			sameWrite(t, api.Token{Kind: c.kind, Text: long(c.byte, n)}, long(c.byte, n), api.OK)
		}
		for _, n := range []int{c.most + 1, 2 * c.most, api.MaxText + 1, 1 << 24} {
			sameWrite(t, api.Token{Kind: c.kind, Text: long(c.byte, n)}, "", api.ErrArg)
		}
	}
	sameWrite(t, realOf("1."+long("0", api.MaxLiteral-2)), "1."+long("0", api.MaxLiteral-2), api.OK)
	sameWrite(t, realOf("1."+long("0", api.MaxLiteral-1)), "", api.ErrArg)
	sameWrite(t, stringOf(long("\xff", api.MaxString)), `"`+long(`\255`, api.MaxString)+`"`, api.OK)
	for _, n := range []int{api.MaxString + 1, api.MaxText, api.MaxText + 1, 1 << 24} {
		sameWrite(t, stringOf(long("a", n)), "", api.ErrArg)
		sameWrite(t, charOf(long("a", n)), "", api.ErrArg)
	}
	half := long("A", api.MaxText/2)
	sameWrite(t, api.Token{Kind: api.TName, Text: half[1:], Path: []string{half}}, half+"."+half[1:], api.OK)
	sameWrite(t, api.Token{Kind: api.TName, Text: half, Path: []string{half}}, "", api.ErrArg)
	sameWrite(t, api.Token{Kind: api.TName, Text: "+", Path: []string{half[4:], half}}, half[4:]+"."+half+".+", api.OK)
	sameWrite(t, api.Token{Kind: api.TName, Text: "+++", Path: []string{half[4:], half}}, "", api.ErrArg)
	parts := make([]string, api.MaxText)
	sameWrite(t, api.Token{Kind: api.TName, Text: "a", Path: parts}, "", api.ErrArg)
	for i := range parts {
		parts[i] = half
	}
	sameWrite(t, api.Token{Kind: api.TName, Text: "a", Path: parts}, "", api.ErrArg)
	for i := range parts {
		parts[i] = "A"
	}
	sameWrite(t, api.Token{Kind: api.TName, Text: "bc", Path: parts[1 : api.MaxText/2]}, long("A.", api.MaxText/2-1)+"bc", api.OK)
	sameWrite(t, api.Token{Kind: api.TName, Text: "bcd", Path: parts[1 : api.MaxText/2]}, "", api.ErrArg)
}

// sameJoin fails the test, if Join answers otherwise than it must.
func sameJoin(t *testing.T, l []api.Token, want string, wantErr api.Errno) {
	t.Helper()
	if s, e := Join(l); s != want || e != wantErr {
		t.Errorf("Join of %d tokens = %q of %d bytes, %d; want %q of %d bytes, %d", len(l), head(s), len(s), e, head(want), len(want), wantErr)
	}
}

// P4.3: all with a blank between any two, of nothing nothing; the first error of Write, wherever it stands.
func TestJoin(t *testing.T) {
	sameJoin(t, nil, "", api.OK)
	sameJoin(t, []api.Token{}, "", api.OK)
	sameJoin(t, []api.Token{reserved("val")}, "val", api.OK)
	sameJoin(t, []api.Token{reserved("("), name("*"), reserved(")"), name("a"), name("A.b"), reserved("..."), reserved(":"), name(">"), name("~"), intOf("5"), reserved("#"), stringOf("\n"), charOf("c"), tyvarOf("'"), realOf("1.5")}, `( * ) a A.b ... : > ~ 5 # "\010" #"c" ' 1.5`, api.OK)
	sameJoin(t, []api.Token{stringOf(""), stringOf("")}, `"" ""`, api.OK)
	for _, l := range [][]api.Token{{{}}, {name("a"), name("val")}, {charOf("ab"), name("a")}, {name("a"), name("b"), intOf("")}} {
		sameJoin(t, l, "", api.ErrArg)
	}
}

// P4.3: MaxText bytes in all, and one more; a wrong token is told ahead of that.
func TestJoinLong(t *testing.T) {
	half := strings.Repeat("a", api.MaxText/2)
	sameJoin(t, []api.Token{name(half), name(half[1:])}, half+" "+half[1:], api.OK)
	sameJoin(t, []api.Token{name(half), name(half)}, "", api.ErrLong)
	sameJoin(t, []api.Token{name(half + half)}, half+half, api.OK)
	sameJoin(t, []api.Token{name(half + half), name("a")}, "", api.ErrLong)
	sameJoin(t, []api.Token{name("a"), name(half + half)}, "", api.ErrLong)
	sameJoin(t, []api.Token{name(half + half), name(half + half), name("val")}, "", api.ErrArg)
	sameJoin(t, []api.Token{name("val"), name(half + half), name(half + half)}, "", api.ErrArg)
	sameJoin(t, []api.Token{name(half + half), name(half + half + "a")}, "", api.ErrArg)
	sameJoin(t, []api.Token{name(half + half + "a")}, "", api.ErrArg)
	sameJoin(t, []api.Token{name(half), name(half), name("b"), name("c")}, "", api.ErrLong) // what is too long stays so
	long := stringOf(strings.Repeat("\n", api.MaxString))
	sameJoin(t, []api.Token{long, long, long, long}, "", api.ErrLong)
	many := make([]api.Token, api.MaxText/2+1)
	for i := range many {
		many[i] = reserved(")")
	}
	sameJoin(t, many, "", api.ErrLong)
	sameJoin(t, many[1:], strings.Repeat(") ", api.MaxText/2-1)+")", api.OK)
}

// P4.4: tokens made at random, any one behind any other, are read as they were written.
func TestThereAndBack(t *testing.T) {
	var kept []api.Token
	for _, s := range pieces {
		if l, _, _, e := Scan(s); e == api.OK {
			kept = append(kept, bare(l)...)
		}
	}
	for _, a := range kept {
		checkBack(t, []api.Token{a})
		for _, b := range kept {
			checkBack(t, []api.Token{a, b})
		}
	}
	r := rand.New(rand.NewSource(44))
	for range 2000 {
		var l []api.Token
		for range r.Intn(40) {
			k := kept[r.Intn(len(kept))]
			if k.Kind == api.TString {
				b := make([]byte, r.Intn(30))
				for i := range b {
					b[i] = byte(r.Intn(256))
				}
				k.Text = string(b)
			}
			l = append(l, k)
		}
		checkBack(t, l)
	}
}
