package lex

import (
	"fmt"
	"strings"
	"testing"

	"kiln/api"
)

// P4.1: whole numbers and reals, each as long as it can be.
func TestNumbers(t *testing.T) {
	for _, s := range strings.Fields("0 1 9 0123456789 00 007 ~0 ~1 ~0123456789 0x0 0x0123456789abcdefABCDEF ~0xF ~0x00 0xe 0xE5 0x1e5") {
		sameScan(t, s, intOf(s))
		sameScan(t, "("+s+")", reserved("("), intOf(s), reserved(")"))
		sameScan(t, s+"+"+s[len(s)-1:], intOf(s), name("+"), lastDigit(s))
		sameFault(t, s+".", 1, 1+len(s), api.ErrByte)
		sameFault(t, s+"..", 1, 1+len(s), api.ErrByte)
		sameFault(t, s+". 5", 1, 1+len(s), api.ErrByte)
		sameFault(t, s+".a", 1, 1+len(s), api.ErrByte)
		sameScan(t, s+"...", intOf(s), reserved("..."))
	}
	for _, s := range strings.Fields("0.0 1.5 ~1.5 12.0345 1E5 1e5 1E~5 1e~5 ~1E5 ~1e~5 1.5E3 1.5e3 1.5E~3 ~0.0e00 00.00E00 9.9e~99") {
		sameScan(t, s, realOf(s))
		sameScan(t, s+" "+s, realOf(s), realOf(s))
		sameScan(t, s+"~5", realOf(s), intOf("~5"))
		sameFault(t, s+".", 1, 1+len(s), api.ErrByte)
		sameFault(t, s+".5", 1, 1+len(s), api.ErrByte)
		sameScan(t, s+"...", realOf(s), reserved("..."))
	}
	sameScan(t, "1~2", intOf("1"), intOf("~2"))
	sameScan(t, "1-2", intOf("1"), name("-"), intOf("2"))
	sameScan(t, "-5", name("-"), intOf("5"))
	sameScan(t, "+~5", name("+~"), intOf("5"))
	sameScan(t, "~~5", name("~~"), intOf("5"))
	sameScan(t, "~ 5", name("~"), intOf("5"))
	sameScan(t, "~x", name("~"), name("x"))
	sameScan(t, "~", name("~"))
	sameScan(t, "~\"5\"", name("~"), stringOf("5"))
}

// lastDigit is the number of a number's last digit.
func lastDigit(s string) api.Token {
	if c := s[len(s)-1]; c >= '0' && c <= '9' {
		return intOf(s[len(s)-1:])
	}
	return name(s[len(s)-1:])
}

// P4.1: a word byte right behind a number.
func TestWrongNumbers(t *testing.T) {
	for _, s := range strings.Fields("12a 1_ 1' 1'a 0x 0X1 0xg 0x1g 0xG 0x_ 0w1 0wx1 1E 1e 1Ex 1E~ 1E~x 1.5E 1.5e~ 1.5x 1.5_ 1E5E5 1E5x 1E5' 1.5E3e 00x1 10x1 ~12a ~0x ~0xg ~1E ~1E~ 1E+5 1E-5 1.5E+3 1e.5 1E~.5 0x1_000 1_000 0b1 0o7 1f 1L 1i") {
		sameFault(t, s, 1, 1, api.ErrNumber)
		sameFault(t, "a\n  "+s+" b", 2, 3, api.ErrNumber)
		sameFault(t, s+" .", 1, 1, api.ErrNumber)
	}
	sameFault(t, "1.5.x", 1, 4, api.ErrByte)
	sameFault(t, "0x1.5", 1, 4, api.ErrByte)
	sameFault(t, "~.5", 1, 2, api.ErrByte)
	sameFault(t, ".5", 1, 1, api.ErrByte)
	sameFault(t, "1.E5", 1, 2, api.ErrByte)
}

// P4.1: a number's text of MaxLiteral bytes, and of one more.
func TestLongNumbers(t *testing.T) {
	digits := strings.Repeat("9", api.MaxLiteral+1)
	for _, c := range []struct {
		head, tail string
		kind       api.TokenKind
	}{
		{"", "", api.TInt}, {"~", "", api.TInt}, {"0x", "", api.TInt}, {"~0x", "F", api.TInt}, {"1.", "", api.TReal}, {"", ".5", api.TReal}, {"~", "E~5", api.TReal}, {"1E", "", api.TReal}, {"1.5e~", "", api.TReal},
	} {
		for _, n := range []int{api.MaxLiteral - 1, api.MaxLiteral, api.MaxLiteral + 1} {
			s := c.head + digits[:n-len(c.head)-len(c.tail)] + c.tail
			if n > api.MaxLiteral {
				sameFault(t, s, 1, 1, api.ErrLong)
				sameFault(t, "a\n "+s+" .", 2, 2, api.ErrLong)
				sameFault(t, s+"("+s+"a", 1, 1, api.ErrLong)
			} else {
				sameScan(t, s, api.Token{Kind: c.kind, Text: s})
				sameScan(t, s+"("+s+")", api.Token{Kind: c.kind, Text: s}, reserved("("), api.Token{Kind: c.kind, Text: s}, reserved(")"))
			}
			sameFault(t, s+"_", 1, 1, api.ErrNumber) // named ahead of ErrLong
		}
	}
	sameFault(t, strings.Repeat("1", api.MaxText), 1, 1, api.ErrLong)
	sameFault(t, strings.Repeat("1", api.MaxText-1)+"a", 1, 1, api.ErrNumber)
}

// P4.1: each of the 256 bytes within a string, behind a `\`, behind `\^`; every number.
func TestStringBytes(t *testing.T) {
	said := map[byte]byte{'a': 7, 'b': 8, 't': 9, 'n': 10, 'v': 11, 'f': 12, 'r': 13, '"': '"', '\\': '\\'}
	for n := range 256 {
		c := string([]byte{byte(n)})
		switch {
		case n < 32 || n > 126:
			sameFault(t, `"`+c+`"`, 1, 1, api.ErrString)
			sameFault(t, `"a`+c+`a"`, 1, 1, api.ErrString)
			sameFault(t, `#"`+c+`"`, 1, 1, api.ErrString)
		case c != `\` && c != `"`: // these two are asked for among the others of TestStrings
			sameBoth(t, c, c)
		}
		if b, ok := said[byte(n)]; ok {
			sameBoth(t, `\`+c, string([]byte{b}))
		} else {
			sameFault(t, `"\`+c+`"`, 1, 1, api.ErrString)
			sameFault(t, `#"\`+c+`"`, 1, 1, api.ErrString)
		}
		if n >= 64 && n <= 95 {
			sameBoth(t, `\^`+c, string([]byte{byte(n - 64)}))
		} else {
			sameFault(t, `"\^`+c+`"`, 1, 1, api.ErrString)
			sameFault(t, `#"\^`+c+`"`, 1, 1, api.ErrString)
		}
	}
	for n := range 1000 {
		if s := fmt.Sprintf(`\%03d`, n); n < 256 {
			sameBoth(t, s, string([]byte{byte(n)}))
		} else {
			sameFault(t, `"`+s+`"`, 1, 1, api.ErrString)
		}
	}
	for n := range 65536 {
		for _, s := range []string{fmt.Sprintf(`\u%04x`, n), fmt.Sprintf(`\u%04X`, n)} {
			if n < 256 {
				sameBoth(t, s, string([]byte{byte(n)}))
			} else {
				sameFault(t, `"`+s+`"`, 1, 1, api.ErrString)
			}
		}
	}
}

// sameBoth asks for a byte as a string, among others, and as a char.
func sameBoth(t *testing.T, s, want string) {
	t.Helper()
	sameScan(t, `"`+s+`"`, stringOf(want))
	sameScan(t, `"0`+s+`7`+s+`"a`, stringOf("0"+want+"7"+want), name("a"))
	sameScan(t, `#"`+s+`"`, charOf(want))
	sameFault(t, `#"`+s+s+`"`, 1, 1, api.ErrString)
}

// P4.1: strings and chars; gaps of each blank.
func TestStrings(t *testing.T) {
	for _, c := range [][2]string{
		{``, ""}, {`abc`, "abc"}, {` !#[]^~'(*`, " !#[]^~'(*"}, {`\\\"`, `\"`}, {`\\n`, `\n`}, {`\0000`, "\x000"}, {`\u00411`, "A1"}, {`\^\\^\`, "\x1c\x1c"}, {`\ \`, ""}, {"\\\t\n\f\r \\", ""}, {"a\\\n   \\b", "ab"}, {`\ \\ \`, ""}, {`\ \\\`, `\`}, {`\ \n`, "n"},
	} {
		sameScan(t, `"`+c[0]+`"`, stringOf(c[1]))
		sameScan(t, `"`+c[0]+`""`+c[0]+`"`, stringOf(c[1]), stringOf(c[1]))
		if len(c[1]) == 1 {
			sameScan(t, `#"`+c[0]+`"`, charOf(c[1]))
		} else {
			sameFault(t, `#"`+c[0]+`"`, 1, 1, api.ErrString)
		}
	}
	sameScan(t, "#\"\\ \\x\\\n\\\"", charOf("x"))
	sameScan(t, `#"x"#"y"`, charOf("x"), charOf("y"))
	sameScan(t, `+#"x"`, name("+#"), stringOf("x"))
	sameScan(t, `##"x"`, name("##"), stringOf("x"))
	sameScan(t, `a#"x"1"y"'a"z"`, name("a"), charOf("x"), intOf("1"), stringOf("y"), tyvarOf("'a"), stringOf("z"))
	for _, s := range []string{`"`, `"a`, `"\"`, `"\\\"`, `"a\`, "\"a\n\"", "\"a\nb\"", "\"\t\"", "\"\x7f\"", "\"\x80\"", "\"é\"", `"\q"`, `"\256"`, `"\25"`, `"\25`, `"\u0100"`, `"\u004"`, `"\u00g0"`, `"\U0041"`, `"\ "`, `"\ x\"`, `"\ `, "\"\\\v\\\"", `"\^"`, `"\^a"`, `"\^?"`, `"\x41"`, `"\0x1"`, `"\-12"`, `"\1_0"`, `"\u+041"`} {
		for _, mark := range []string{"", "#"} {
			sameFault(t, mark+s, 1, 1, api.ErrString)
			sameFault(t, "a\n"+mark+s, 2, 1, api.ErrString)
			sameFault(t, "\n\n  'a "+mark+s+" .", 3, 6, api.ErrString)
		}
	}
}

// P4.1: a string that says MaxString bytes, and one more, however long its text is.
func TestLongStrings(t *testing.T) {
	full := strings.Repeat("0123456789abcdef", api.MaxString/16)
	numbers := strings.Repeat(`\255`, api.MaxString)
	gap := `\` + strings.Repeat("\n", 300000) + `\`
	sameScan(t, `"`+full+`"`, stringOf(full))
	sameScan(t, `"`+full[1:]+`"`, stringOf(full[1:]))
	sameScan(t, `"`+gap+full+gap+`"`, stringOf(full))
	sameScan(t, `"`+numbers+`"`, stringOf(strings.Repeat("\xff", api.MaxString)))
	sameScan(t, `"`+full+`" "`+full+`"`, stringOf(full), stringOf(full))
	for _, s := range []string{full + "x", full + `\n`, numbers + "a", full + gap + `\255`, full + full, strings.Repeat("a", api.MaxText-2-5)} {
		sameFault(t, `"`+s+`"`, 1, 1, api.ErrLong)
		sameFault(t, "a\n \""+s+`".`, 2, 2, api.ErrLong)
		for _, bad := range []string{"", `\q"`, "\n\"", "\x00"} { // no string at all: that is named ahead of ErrLong
			sameFault(t, `"`+s+bad, 1, 1, api.ErrString)
			sameFault(t, `#"`+s+bad, 1, 1, api.ErrString)
		}
		sameFault(t, `#"`+s+`"`, 1, 1, api.ErrString)
	}
	sameFault(t, `#"`+full+`"`, 1, 1, api.ErrString)
}

// faults are a text of each fault, whose token or comment has ended if it can.
var faults = []struct {
	s    string
	want api.Errno
}{
	{".", api.ErrByte}, {"\x01", api.ErrByte}, {"\v", api.ErrByte}, {"\x7f", api.ErrByte}, {"\x80", api.ErrByte}, {"\xff", api.ErrByte}, {"..", api.ErrByte},
	{`"\q"`, api.ErrString}, {"\"\n\"", api.ErrString}, {`#""`, api.ErrString}, {`#"ab"`, api.ErrString},
	{"12a", api.ErrNumber}, {"0x", api.ErrNumber}, {"~1E~", api.ErrNumber},
	{"A.end", api.ErrName}, {"A.", api.ErrName}, {"A.=", api.ErrName},
	{strings.Repeat("1", api.MaxLiteral+1), api.ErrLong}, {`"` + strings.Repeat("1", api.MaxString+1) + `"`, api.ErrLong},
}

// endless are those that nothing ends.
var endless = []struct {
	s    string
	want api.Errno
}{
	{"(* *", api.ErrComment}, {"(*(**)", api.ErrComment}, {`"a`, api.ErrString}, {`#"a`, api.ErrString},
}

// P4.7: of two faults the first is told, in both orders; what stands behind it changes nothing.
func TestFirstFault(t *testing.T) {
	for _, a := range faults {
		for _, lead := range []string{"", "val x = ", "\n\n(*\n*) 'a \n"} {
			at := place{1, 1}.behind(lead)
			sameFault(t, lead+a.s, at.line, at.column, a.want)
			for _, b := range append(faults, endless...) {
				for _, gap := range []string{" ", "\n", "\t ", " (**)", " a "} {
					sameFault(t, lead+a.s+gap+b.s, at.line, at.column, a.want)
				}
			}
			for _, tail := range []string{" ", " a", "\n", " \"", " (*", " *)", " \xff", " " + a.s} {
				sameFault(t, lead+a.s+tail, at.line, at.column, a.want)
			}
		}
	}
	for _, a := range endless {
		for _, b := range faults {
			sameFault(t, "a "+b.s+" "+a.s, 1, 3, b.want)
		}
		sameFault(t, "a \n"+a.s, 2, 1, a.want)
	}
}
