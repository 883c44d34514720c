package lex

import (
	"slices"
	"strings"
	"testing"
	"unsafe"

	"kiln/api"
)

// sameScan fails the test, if Scan does not give these tokens, places aside.
func sameScan(t *testing.T, s string, want ...api.Token) {
	t.Helper()
	l, line, column, e := Scan(s)
	if !sameTokens(bare(l), want) || line != 0 || column != 0 || e != api.OK {
		t.Errorf("Scan(%q of %d bytes) = %s, %d, %d, %d; want %s", head(s), len(s), show(l), line, column, e, show(want))
	}
}

// sameFault fails the test, if Scan does not answer this fault at this place, and nothing else.
func sameFault(t *testing.T, s string, line, column int, want api.Errno) {
	t.Helper()
	l, gotLine, gotColumn, e := Scan(s)
	if len(l) != 0 || gotLine != line || gotColumn != column || e != want {
		t.Errorf("Scan(%q of %d bytes) = %s, %d, %d, %d; want %d, %d, %d", head(s), len(s), show(l), gotLine, gotColumn, e, line, column, want)
	}
}

// Tokens of each kind.
func reserved(s string) api.Token { return api.Token{Kind: api.TReserved, Text: s} }
func tyvarOf(s string) api.Token  { return api.Token{Kind: api.TTyvar, Text: s} }
func intOf(s string) api.Token    { return api.Token{Kind: api.TInt, Text: s} }
func realOf(s string) api.Token   { return api.Token{Kind: api.TReal, Text: s} }
func stringOf(s string) api.Token { return api.Token{Kind: api.TString, Text: s} }
func charOf(s string) api.Token   { return api.Token{Kind: api.TChar, Text: s} }

// name is a name, behind its path.
func name(s string) api.Token {
	parts := strings.Split(s, ".")
	return api.Token{Kind: api.TName, Text: parts[len(parts)-1], Path: parts[:len(parts)-1]}
}

// P4.1: the chapter's examples.
func TestExamples(t *testing.T) {
	sameScan(t, "val x' = ~5 : int", reserved("val"), name("x'"), reserved("="), intOf("~5"), reserved(":"), name("int"))
	sameScan(t, "x::y", name("x"), name("::"), name("y"))
	sameScan(t, "fn x=>x", reserved("fn"), name("x"), reserved("=>"), name("x"))
	sameScan(t, "a-~5", name("a"), name("-~"), intOf("5"))
	sameScan(t, "A.B.c", name("A.B.c"))
	sameScan(t, "List.@", name("List.@"))
	sameScan(t, "A.b.+", name("A.b.+"))
	sameScan(t, "...", reserved("..."))
	sameScan(t, `"a\tb\   \c\065"`, stringOf("a\tbcA"))
	sameScan(t, `#"x"`, charOf("x"))
	sameScan(t, `# "a"`, reserved("#"), stringOf("a"))
	sameScan(t, "#1", reserved("#"), intOf("1"))
	sameScan(t, "1.5E~3", realOf("1.5E~3"))
	sameScan(t, "'a ''a '", tyvarOf("'a"), tyvarOf("''a"), tyvarOf("'"))
	sameFault(t, "A.end", 1, 1, api.ErrName)
	sameFault(t, "A. b", 1, 1, api.ErrName)
	sameFault(t, ".", 1, 1, api.ErrByte)
	sameFault(t, `#""`, 1, 1, api.ErrString)
	sameFault(t, `#"ab"`, 1, 1, api.ErrString)
	for _, s := range []string{"12a", "1E", "0x", "0w1"} {
		sameFault(t, s, 1, 1, api.ErrNumber)
	}
	sameFault(t, "1.", 1, 2, api.ErrByte)
	sameFault(t, "(* (* *) ", 1, 1, api.ErrComment)
}

// P4.1: every reserved word and sign, alone, and with more behind it.
func TestReservedTokens(t *testing.T) {
	for _, s := range words {
		sameScan(t, s, reserved(s))
		sameScan(t, s+" "+s+"("+s+")+", reserved(s), reserved(s), reserved("("), reserved(s), reserved(")"), name("+"))
		for _, more := range []string{"x", "0", "_", "'", s} {
			if s+more != "infixr" {
				sameScan(t, s+more, name(s+more))
			}
		}
		sameScan(t, strings.ToUpper(s), name(strings.ToUpper(s)))
		sameScan(t, "x"+s, name("x"+s))
		sameScan(t, "'"+s, tyvarOf("'"+s))
		sameScan(t, "_"+s, reserved("_"), reserved(s))
		sameScan(t, s+"...", reserved(s), reserved("..."))
		sameFault(t, "A."+s, 1, 1, api.ErrName)
		sameFault(t, "A."+s+".b", 1, 1, api.ErrName)
		sameFault(t, " A.b."+s+" ", 1, 2, api.ErrName)
		sameFault(t, s+".a", 1, 1+len(s), api.ErrByte) // a reserved word is no name: the point begins a token
		sameScan(t, "A."+s+"'", name("A."+s+"'"))
	}
	for _, s := range reservedSigns {
		sameScan(t, s, reserved(s))
		sameScan(t, s+" "+s, reserved(s), reserved(s))
		sameScan(t, "a "+s+" b", name("a"), reserved(s), name("b"))
		sameScan(t, "+ "+s+" 1", name("+"), reserved(s), intOf("1"))
		sameScan(t, "a "+s+"b", name("a"), reserved(s), name("b"))
		sameFault(t, "A."+s, 1, 1, api.ErrName)
		sameFault(t, "A.b."+s+"x", 1, 1, api.ErrName)
	}
	for _, s := range strings.Fields("( ) [ ] { } , ; _") {
		sameScan(t, s+s, reserved(s), reserved(s))
		sameScan(t, s+"a", reserved(s), name("a"))
		sameScan(t, s+"1", reserved(s), intOf("1"))
	}
	sameScan(t, "[{(,;)}]", reserved("["), reserved("{"), reserved("("), reserved(","), reserved(";"), reserved(")"), reserved("}"), reserved("]"))
	sameScan(t, "......", reserved("..."), reserved("..."))
	sameScan(t, "_'a _0x1 __", reserved("_"), tyvarOf("'a"), reserved("_"), intOf("0x1"), reserved("_"), reserved("_"))
}

// P4.1: names of letters, of signs, as long as they can be.
func TestNames(t *testing.T) {
	const letters, others, signs = "ABCDEFGHIJKLMNOPQRSTUVWXYZabcdefghijklmnopqrstuvwxyz", "0123456789_'", "!%&$#+-/:<=>?@\\~`^|*"
	for i := range len(letters) {
		c := letters[i : i+1]
		sameScan(t, c, name(c))
		sameScan(t, c+letters+others, name(c+letters+others))
		sameScan(t, c+"+"+c, name(c), name("+"), name(c))
	}
	for i := range len(signs) {
		c := signs[i : i+1]
		if !isReserved(c) {
			sameScan(t, c, name(c))
		}
		sameScan(t, c+"!", name(c+"!"))
		sameScan(t, c+signs, name(c+signs))
		sameScan(t, "a"+c+"!b", name("a"), name(c+"!"), name("b"))
	}
	// Names of signs that begin or end with a reserved one.
	for _, s := range strings.Fields(":: := ::> :>: :>> || |= == =: =>> ==> ->> --> -> -< ## #: :# |> >| =~ ~= *= <=> :=> #> :| >= <- =< =>=> :>:>") {
		if !isReserved(s) {
			sameScan(t, s, name(s))
			sameScan(t, "a"+s+"b", name("a"), name(s), name("b"))
			sameScan(t, "A."+s, name("A."+s))
		}
	}
	sameScan(t, strings.Repeat("a", 100000)+" "+strings.Repeat("+", 100000), name(strings.Repeat("a", 100000)), name(strings.Repeat("+", 100000)))
	sameScan(t, "valx andalsox xval", name("valx"), name("andalsox"), name("xval"))
	sameScan(t, "''a' '1 '_ ''' 'val", tyvarOf("''a'"), tyvarOf("'1"), tyvarOf("'_"), tyvarOf("'''"), tyvarOf("'val"))
	sameScan(t, "a' 'a", name("a'"), tyvarOf("'a"))
	sameScan(t, "+'a(1)", name("+"), tyvarOf("'a"), reserved("("), intOf("1"), reserved(")"))
}

// P4.1: long names, with a last part of letters and of signs, and what is none.
func TestLongNames(t *testing.T) {
	for _, s := range strings.Fields("A.b A.B.c a.b.c.d A'.b_.c1 A.+ A.:: A.b.-> A.== A.~ List.@ A.\\ A.* A.b.# A.end' A.vals x.val'.y") {
		parts := strings.Split(s, ".")
		if isReserved(parts[len(parts)-1]) {
			sameFault(t, s, 1, 1, api.ErrName)
			continue
		}
		sameScan(t, s, name(s))
		sameScan(t, "("+s+")", reserved("("), name(s), reserved(")"))
	}
	deep := strings.Repeat("S.", 1000)
	sameScan(t, deep+"x", name(deep+"x"))
	sameScan(t, deep+"+", name(deep+"+"))
	sameScan(t, "A.~5", name("A.~"), intOf("5"))
	sameScan(t, "A.b~5", name("A.b"), intOf("~5"))
	sameScan(t, "A.+x", name("A.+"), name("x"))
	sameScan(t, "A.##\"a\"", name("A.##"), stringOf("a"))
	sameScan(t, "A.+...", name("A.+"), reserved("..."))
	sameScan(t, "+...", name("+"), reserved("..."))
	sameScan(t, "1...", intOf("1"), reserved("..."))
	sameScan(t, "'a...", tyvarOf("'a"), reserved("..."))
	for _, s := range []string{"A.", "A.b.", "A..b", "A...", "a...", "A.b...", "A.1", "A.'a", "A.\"x\"", "A.#\"x\"", "A.(*) *)b", "A.(", "A.\n", "A.\x00", "A._", "A._b", "A.=", "A.:>", "A.#", "A.B.C.", "A. ", "A.\tb", "A.,", "A.[", "A.b. c"} {
		sameFault(t, s, 1, 1, api.ErrName)
		sameFault(t, "x\n +"+s, 2, 3, api.ErrName)
	}
	sameFault(t, "A .b", 1, 3, api.ErrByte)
	sameFault(t, "A.+.b", 1, 4, api.ErrByte)
	sameFault(t, "+.b", 1, 2, api.ErrByte)
	sameFault(t, "'a.b", 1, 3, api.ErrByte)
	sameFault(t, "_.b", 1, 2, api.ErrByte)
	sameFault(t, ").b", 1, 2, api.ErrByte)
	sameFault(t, "\"\".b", 1, 3, api.ErrByte)
}

// P4.1: comments, nested, within names and signs, and those that do not end.
func TestComments(t *testing.T) {
	for _, s := range []string{"(**)", "(***)", "(****)", "(*)*)", "(* *)", "(*(**)*)", "(* (* *) (* (* *) *) *)", "(*\n*)", "(*\"*)", "(*'*)", "(*\\*)", "(*\x00\xff\v*)", "(*(*)*)*)", "(*((*))*)*)", "(* val x = 1.. 12a *)", "(*) *)", "(*** (***) ***)", "(*(*)(*)*)*)*)", "(*)(**)*)", "(* ( * ) *)"} {
		sameScan(t, s)
		sameScan(t, s+s)
		sameScan(t, "a"+s+"b", name("a"), name("b"))
		sameScan(t, "="+s+">", reserved("="), name(">"))
		sameScan(t, "~"+s+"5", name("~"), intOf("5"))
		sameScan(t, "1"+s+"2", intOf("1"), intOf("2"))
		sameScan(t, "#"+s+"\"a\"", reserved("#"), stringOf("a"))
		sameScan(t, "'"+s+"a", tyvarOf("'"), name("a"))
		sameScan(t, ":"+s+":", reserved(":"), reserved(":"))
		sameFault(t, "A."+s+"b", 1, 1, api.ErrName)
		sameFault(t, "."+s+"..", 1, 1, api.ErrByte)
	}
	sameScan(t, `"(*" "*)"`, stringOf("(*"), stringOf("*)"))
	sameScan(t, "( *)", reserved("("), name("*"), reserved(")"))
	sameScan(t, "*)", name("*"), reserved(")"))
	sameScan(t, "((**)*)", reserved("("), name("*"), reserved(")"))
	sameScan(t, "(**)*)", name("*"), reserved(")"))
	sameScan(t, "+(*a*)(*b*)*", name("+"), name("*"))
	for _, s := range []string{"(*", "(*)", "(* ", "(* *", "(* )", "(* * )", "(*(**)", "(* (* *) ", "(*(*)*)", "(*(", "(*\n\n", "(*(*(*(*"} {
		sameFault(t, s, 1, 1, api.ErrComment)
		sameFault(t, "a\n\nb "+s, 3, 3, api.ErrComment)
		sameFault(t, "(*\"*) (*\n*) "+s, 2, 4, api.ErrComment)
	}
	many := strings.Repeat("(*", 200000)
	sameScan(t, many+strings.Repeat("*)", 200000)+"x", name("x"))
	sameFault(t, many+strings.Repeat("*)", 199999), 1, 1, api.ErrComment)
}

// P4.1: the line and column of each token's first byte: the first of the text, of a line, behind each blank, string and comment.
func TestPlaces(t *testing.T) {
	for _, c := range []struct {
		s    string
		want [][2]int
	}{
		{"", nil}, {"a", [][2]int{{1, 1}}}, {" a", [][2]int{{1, 2}}}, {"\na", [][2]int{{2, 1}}}, {"\n\na\nb", [][2]int{{3, 1}, {4, 1}}}, {"\r\na\rb\fc\td", [][2]int{{2, 1}, {2, 3}, {2, 5}, {2, 7}}},
		{"ab+cd", [][2]int{{1, 1}, {1, 3}, {1, 4}}}, {"A.b.c d\n  e", [][2]int{{1, 1}, {1, 7}, {2, 3}}}, {"\"a\\\n\n  \\b\"x\ny", [][2]int{{1, 1}, {3, 6}, {4, 1}}}, {"#\"\\\n\\a\" b", [][2]int{{1, 1}, {2, 5}}}, {"(*\n*)a", [][2]int{{2, 3}}}, {"a(* (*\n*)\n\n *)b c", [][2]int{{1, 1}, {4, 4}, {4, 6}}}, {"\"\xff", nil}, {"\"\\200\\u00c8\"x", [][2]int{{1, 1}, {1, 13}}}, {"(*é*)x", [][2]int{{1, 7}}}, {"~5 ...1.5", [][2]int{{1, 1}, {1, 4}, {1, 7}}}, {"a\n", [][2]int{{1, 1}}},
	} {
		l, _, _, _ := Scan(c.s)
		var got [][2]int
		for _, k := range l {
			got = append(got, [2]int{k.Line, k.Column})
		}
		if !slices.Equal(got, c.want) {
			t.Errorf("places of %q: %v; want %v", c.s, got, c.want)
		}
	}
}

// P4.1: texts without any token.
func TestNoTokens(t *testing.T) {
	for _, s := range []string{"", " ", "\t\n\f\r ", "(**)", " (* a *) \n(**)\n", strings.Repeat("\n", api.MaxText)} {
		if l, line, column, e := Scan(s); len(l) != 0 || line != 0 || column != 0 || e != api.OK {
			t.Errorf("Scan(%q) = %v, %d, %d, %d", head(s), l, line, column, e)
		}
	}
}

// P4.1: a text of MaxText bytes, and of one more: ErrLong without a place, whatever is in it.
func TestLongTexts(t *testing.T) {
	for _, unit := range []string{"a", "+", " ", "a ", "1 ", "(", ".", "\"", "(*", "...", "A.", "'", "\xff", "(**)", "\"\\n\" ", "#\"a\" ", "a\n"} {
		s := strings.Repeat(unit, api.MaxText/len(unit)+2)
		for _, n := range []int{api.MaxText - 1, api.MaxText} {
			if l, line, column, e := Scan(s[:n]); e == api.ErrLong && (line == 0 || column == 0) {
				t.Errorf("Scan of %d bytes of %q: %d tokens, %d, %d, %d", n, unit, len(l), line, column, e)
			}
		}
		for _, n := range []int{api.MaxText + 1, api.MaxText + 2} {
			sameFault(t, s[:n], 0, 0, api.ErrLong)
		}
	}
	most := strings.Repeat("a", api.MaxText)
	sameScan(t, most, name(most))
	sameScan(t, most[1:]+" ", name(most[1:]))
	l, _, _, e := Scan(strings.Repeat("+ ", api.MaxText/2))
	if len(l) != api.MaxText/2 || e != api.OK || l[len(l)-1].Column != api.MaxText-1 {
		t.Errorf("%d tokens, %d", len(l), e)
	}
	l, _, _, e = Scan(strings.Repeat(")", api.MaxText))
	if len(l) != api.MaxText || e != api.OK || l[len(l)-1].Column != api.MaxText {
		t.Errorf("%d tokens, %d", len(l), e)
	}
	check(t, strings.Repeat("a\n", 3000))
	check(t, strings.Repeat("\"\\n\\\n\\\" ", 300))
	sameFault(t, strings.Repeat("\n", api.MaxText-1)+".", api.MaxText, 1, api.ErrByte)
	sameFault(t, strings.Repeat(" ", api.MaxText-1)+"\"", 1, api.MaxText, api.ErrString)
}

// P4.2: each reserved word and sign, and nothing else.
func TestReserved(t *testing.T) {
	for _, s := range append(append([]string{}, words...), reservedSigns...) {
		if !Reserved(s) {
			t.Errorf("Reserved(%q) = false", s)
		}
		for _, other := range []string{s + " ", " " + s, s + "\x00", strings.ToUpper(s) + "x", s + s, s + "'"} {
			if Reserved(other) {
				t.Errorf("Reserved(%q) = true", other)
			}
		}
	}
	for _, s := range strings.Fields("a val' Val VAL va vall * + :: ~ .. . .... \" ' ## <- >= == >: |: => x true false nil ref not div mod before o exn int andthen elseif endif unit it raisex") {
		if Reserved(s) != (s == "=>") {
			t.Errorf("Reserved(%q) = %v", s, Reserved(s))
		}
	}
	if Reserved("") || Reserved(strings.Repeat("val", 100000)) {
		t.Error("Reserved of nothing, or of much")
	}
	for a := range 256 {
		s := string([]byte{byte(a)})
		if Reserved(s) != isReserved(s) {
			t.Errorf("Reserved(%q) = %v", s, Reserved(s))
		}
		for b := range 256 {
			if s := string([]byte{byte(a), byte(b)}); Reserved(s) != isReserved(s) {
				t.Errorf("Reserved(%q) = %v", s, Reserved(s))
			}
		}
	}
}

// P4.6: blanks and comments more between tokens change nothing but places.
func TestBlanks(t *testing.T) {
	const s = `val x ' = ~5 : A.B.int ; fun f ( a , b ) = a + - ~ 1.5 "s" #"c" ... # 1 * ) ( *`
	want, _, _, e := Scan(s)
	if e != api.OK || len(want) != 30 {
		t.Fatalf("%d tokens, %d", len(want), e)
	}
	for _, gap := range []string{"  ", "\t", "\n", "\f", "\r", "\r\n", " (**) ", "(**)", "(* (* a *) \" *)", "\n\n(*\n*)\n", " (*)*)", strings.Repeat("\n ", 1000)} {
		sameScan(t, gap+strings.ReplaceAll(s, " ", gap)+gap, bare(want)...)
		for i := range len(s) {
			if s[i] == ' ' {
				sameScan(t, s[:i]+gap+s[i:], bare(want)...)
			}
		}
	}
}

// P1: answers are new memory, one path's apart from another's and from the text's.
func TestNewMemory(t *testing.T) {
	s := strings.Clone("val A.B.c = A.d 'a 12 1.5 \"str\" #\"c\" + ::")
	l, _, _, e := Scan(s)
	if e != api.OK {
		t.Fatal(e)
	}
	within := func(part string) bool {
		from, at := uintptr(unsafe.Pointer(unsafe.StringData(s))), uintptr(unsafe.Pointer(unsafe.StringData(part)))
		return at >= from && at < from+uintptr(len(s))
	}
	for _, k := range l {
		for _, part := range append(slices.Clone(k.Path), k.Text) {
			if within(part) {
				t.Errorf("%q shares the text's memory", part)
			}
		}
	}
	for i := range l {
		for j := range l[i].Path {
			l[i].Path[j] = "x"
		}
		_ = append(l[i].Path, "y")
	}
	if !slices.Equal(l[1].Path, []string{"x", "x"}) || !slices.Equal(l[3].Path, []string{"x"}) {
		t.Errorf("paths share memory: %v", l)
	}
	for _, k := range l {
		text, _ := Write(k)
		for _, part := range append(slices.Clone(k.Path), k.Text) {
			if len(part) > 0 && unsafe.StringData(part) == unsafe.StringData(text) {
				t.Errorf("Write(%v) shares the token's memory", k)
			}
		}
		one, _ := Join([]api.Token{k})
		if unsafe.StringData(one) == unsafe.StringData(k.Text) {
			t.Errorf("Join of %v shares the token's memory", k)
		}
	}
}
