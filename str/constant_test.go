package str

import (
	"encoding/hex"
	"fmt"
	"math/rand"
	"regexp"
	"strconv"
	"strings"
	"testing"

	"kiln/api"
)

// named are the escapes of one letter, as the tables of P3.3 and P3.4 have them.
var named = map[string]byte{`\a`: 7, `\b`: 8, `\t`: 9, `\n`: 10, `\v`: 11, `\f`: 12, `\r`: 13, `\"`: 34, `\\`: 92}

// written is a character by the words of P3.3.
func written(c byte) string {
	for text, n := range named {
		if n == c {
			return text
		}
	}
	if c < 32 {
		return `\^` + bytewise(c+64)
	}
	if c >= 127 {
		return fmt.Sprintf(`\%03d`, c)
	}
	return bytewise(c)
}

// sameRead fails the test, if Read answers otherwise than it must.
func sameRead(t *testing.T, s, want string, place int, wantErr api.Errno) {
	t.Helper()
	if got, k, e := Read(s); got != want || k != place || e != wantErr {
		t.Errorf("Read(%q of %d bytes) = %q of %d bytes, %d, %d; want %q of %d bytes, %d, %d", head(s), len(s), head(got), len(got), k, e, head(want), len(want), place, wantErr)
	}
}

// P3.3: each of the 256 bytes, alone and among others.
func TestEscape(t *testing.T) {
	all := ""
	for c := range 256 {
		b := byte(c)
		s, e := Escape(bytewise(b))
		sameText(t, "Escape of one byte", s, e, written(b), api.OK)
		s, e = Escape(bytewise('0', b, b, '7'))
		sameText(t, "Escape of a byte among others", s, e, "0"+written(b)+written(b)+"7", api.OK)
		all += written(b)
	}
	s, e := Escape(allBytes())
	sameText(t, "Escape of all bytes", s, e, all, api.OK)
	for _, c := range [][2]string{
		{"", ""}, {"abc", "abc"}, {"\n\"\\\x01\xc8A", `\n\"\\\^A\200A`}, {"\a\b\t\n\v\f\r", `\a\b\t\n\v\f\r`},
		{"\x00\x06\x0e\x1b\x1c\x1d\x1e\x1f ", `\^@\^F\^N\^[\^\\^]\^^\^_ `}, {"~\x7f\x80\xfe\xff", `~\127\128\254\255`}, {"é", `\195\169`}, {`\n`, `\\n`}, {"\x001", `\^@1`}, {"\xff0", `\2550`}, {"'`!#[]^", "'`!#[]^"},
	} {
		s, e := Escape(c[0])
		sameText(t, "Escape", s, e, c[1], api.OK)
	}
}

// P3.3: texts up to MaxString bytes are answered, none of one more; no string is ErrArg, however long its text would be.
func TestEscapeLong(t *testing.T) {
	for _, c := range []struct {
		s    string
		size int
	}{
		{full, api.MaxString}, {strings.Repeat("\"", 32768), api.MaxString}, {strings.Repeat("\n", 32768), api.MaxString}, {strings.Repeat("\xff", 16384), api.MaxString}, {strings.Repeat("\x00", 21845), api.MaxString - 1}, {strings.Repeat("\x00", 21845) + "a", api.MaxString}, {full[2:] + "\\", api.MaxString}, {full[3:] + "\x1f", api.MaxString}, {"\xff" + full[4:], api.MaxString},
		{full[1:] + "\\", 0}, {full[2:] + "\x00", 0}, {full[3:] + "\x7f", 0}, {strings.Repeat("\"", 32769), 0}, {strings.Repeat("\n", 32768) + "a", 0}, {strings.Repeat("\xff", 16384) + "a", 0}, {strings.Repeat("\xff", api.MaxString), 0}, {strings.Repeat("\x00", 21845) + "ab", 0}, {"\"" + full[1:], 0},
	} {
		want, wantErr := "", api.ErrLong
		if c.size > 0 {
			var b strings.Builder
			for i := range len(c.s) {
				b.WriteString(written(c.s[i]))
			}
			want, wantErr = b.String(), api.OK
		}
		s, e := Escape(c.s)
		sameText(t, "Escape", s, e, want, wantErr)
		if len(s) != c.size {
			t.Errorf("Escape(%q): %d bytes; want %d", head(c.s), len(s), c.size)
		}
	}
	for _, s := range []string{over, strings.Repeat("\"", api.MaxString+1), strings.Repeat("\xff", api.MaxString+1), full + full} {
		text, e := Escape(s)
		sameText(t, "Escape of no string", text, e, "", api.ErrArg)
	}
}

// P3.4: each form of the table.
func TestRead(t *testing.T) {
	for _, c := range [][2]string{
		{``, ""}, {`abc`, "abc"}, {` !#[]^~'`, " !#[]^~'"}, {`a\065\u0042\   \c`, "aABc"}, {`a\065\u0042\^@\   \c`, "aAB\x00c"}, {`\a\b\t\n\v\f\r`, "\a\b\t\n\v\f\r"}, {`\"\\`, "\"\\"}, {`\\n`, `\n`}, {`\\\n`, "\\\n"}, {`\\\\`, `\\`},
		{`\000\001\099\100\199\200\249\250\255`, "\x00\x01\x63\x64\xc7\xc8\xf9\xfa\xff"}, {`\0000`, "\x000"}, {`\2555`, "\xff5"}, {`\010`, "\x0a"}, {`\u0000\u0001\u0009\u000a\u000A\u000f\u000F\u007F\u00ff\u00FF\u00fF\u00aB`, "\x00\x01\x09\x0a\x0a\x0f\x0f\x7f\xff\xff\xff\xab"}, {`\u00411`, "A1"}, {`\u0041F`, "AF"},
		{`\^@\^A\^Z\^[\^\\^]\^^\^_`, "\x00\x01\x1a\x1b\x1c\x1d\x1e\x1f"}, {`\^\\^\`, "\x1c\x1c"}, {`\^^^`, "\x1e^"}, {`\^AA`, "\x01A"},
	} {
		sameRead(t, c[0], c[1], 0, api.OK)
	}
}

// P3.4: gaps of each blank, alone, twice and among others; at both ends, and one behind the other.
func TestReadGaps(t *testing.T) {
	const blank = "\t\n\f\r "
	for i := range len(blank) {
		b := blank[i : i+1]
		for _, gap := range []string{b, b + b, b + blank, blank + b, strings.Repeat(b, 100000)} {
			sameRead(t, `\`+gap+`\`, "", 0, api.OK)
			sameRead(t, `a\`+gap+`\b`, "ab", 0, api.OK)
			sameRead(t, `\`+gap+`\\`+gap+`\`, "", 0, api.OK)
			sameRead(t, `\`+gap+`\n\`+gap+`\\n`, "n\n", 0, api.OK)
			sameRead(t, `ab\`+gap, "", 2, api.ErrConstant)
			sameRead(t, `ab\`+gap+`c\`, "", 2, api.ErrConstant)
			sameRead(t, `ab\`+gap+`"`, "", 2, api.ErrConstant)
			sameRead(t, `ab\`+gap+"\v\\", "", 2, api.ErrConstant)
			sameRead(t, `\`+gap+`\\`, "", len(gap)+2, api.ErrConstant)
		}
		sameRead(t, `\x`+b+`\`, "", 0, api.ErrConstant)
		if b != " " {
			sameRead(t, "ab"+b, "", 2, api.ErrConstant)
		}
	}
	for c := range 256 {
		b := byte(c)
		if strings.IndexByte(blank, b) >= 0 || b == '\\' {
			continue
		}
		sameRead(t, `\ `+bytewise(b)+` \`, "", 0, api.ErrConstant)
		sameRead(t, `\ `+bytewise(b, '\\'), "", 0, api.ErrConstant)
	}
	sameRead(t, `\\`, `\`, 0, api.OK) // no gap: there is no blank in it
	sameRead(t, `\\ \\`, `\ \`, 0, api.OK)
}

// P3.4: the place of the first byte, or of the first `\`, that can stand for nothing.
func TestReadWrong(t *testing.T) {
	for _, c := range []struct {
		s     string
		place int
	}{
		{`ab\q`, 2}, {`\256`, 0}, {"\n", 0}, {`a"`, 1}, {`a\`, 1}, {`"`, 0}, {`\`, 0}, {`\\\`, 2}, {"abc\x7f", 3}, {"a\x80", 1}, {"é", 0}, {"a\x00b", 1}, {"a\x1f\"", 1}, {"\xff", 0}, {"a\\\x00", 1},
		{`\257`, 0}, {`\260`, 0}, {`\300`, 0}, {`\999`, 0}, {`\0`, 0}, {`\00`, 0}, {`\25`, 0}, {`\25"`, 0}, {`\2 5`, 0}, {`\-12`, 0}, {`\+12`, 0}, {`\0x1`, 0}, {`\1_0`, 0}, {`\00a`, 0}, {`\0/0`, 0}, {`\0:0`, 0}, {`ab\255\256`, 6},
		{`\u`, 0}, {`\u0`, 0}, {`\u00`, 0}, {`\u004`, 0}, {`\u0100`, 0}, {`\u0101`, 0}, {`\u1000`, 0}, {`\uFFFF`, 0}, {`\uffff`, 0}, {`\u00g0`, 0}, {`\u00G0`, 0}, {`\u00/0`, 0}, {`\u00:0`, 0}, {`\u00@0`, 0}, {"\\u00`0", 0}, {`\u 041`, 0}, {`\u+041`, 0}, {`\u-041`, 0}, {`\u0x41`, 0}, {`\u0_41`, 0}, {`\U0041`, 0}, {`\u{41}`, 0}, {`xyz\u004`, 3},
		{`\^`, 0}, {`\^?`, 0}, {"\\^`", 0}, {`\^a`, 0}, {`\^z`, 0}, {`\^ `, 0}, {`\^"`, 0}, {"\\^\x1f", 0}, {"\\^\x80", 0}, {"\\^\xc1", 0}, {`a\^`, 1},
		{`\A`, 0}, {`\N`, 0}, {`\'`, 0}, {`\x41`, 0}, {`\e`, 0}, {`\s`, 0}, {`\/`, 0}, {"\\\v\\", 0}, {"\\\x00\\", 0}, {"\\\xa0\\", 0}, {`a\ b`, 1},
		{`a\qb"`, 1}, {`a"b\q`, 1}, {`ok\n\065\^A\u0041\ \x\"` + "\x01" + `\q`, 23},
	} {
		sameRead(t, c.s, "", c.place, api.ErrConstant)
	}
}

// P3.4: every number of three digits, of four hexadecimal ones, and every byte behind `\^`, behind `\` and alone.
func TestReadNumbers(t *testing.T) {
	for n := range 1000 {
		want, wantErr := "", api.ErrConstant
		if n < 256 {
			want, wantErr = bytewise(byte(n)), api.OK
		}
		sameRead(t, fmt.Sprintf(`\%03d`, n), want, 0, wantErr)
	}
	for n := range 65536 {
		want, wantErr := "", api.ErrConstant
		if n < 256 {
			want, wantErr = bytewise(byte(n)), api.OK
		}
		sameRead(t, fmt.Sprintf(`\u%04x`, n), want, 0, wantErr)
		sameRead(t, fmt.Sprintf(`\u%04X`, n), want, 0, wantErr)
	}
	for c := range 256 {
		b := byte(c)
		want, wantErr := "", api.ErrConstant
		if c >= 64 && c <= 95 {
			want, wantErr = bytewise(b-64), api.OK
		}
		sameRead(t, bytewise('\\', '^', b), want, 0, wantErr)
		want, wantErr = "", api.ErrConstant
		if n, ok := named[bytewise('\\', b)]; ok {
			want, wantErr = bytewise(n), api.OK
		}
		sameRead(t, bytewise('\\', b), want, 0, wantErr)
		want, wantErr = "", api.ErrConstant
		if c >= 32 && c <= 126 && c != '"' && c != '\\' {
			want, wantErr = bytewise(b), api.OK
		}
		sameRead(t, bytewise(b), want, 0, wantErr)
	}
}

// P3.4: a string of MaxString bytes, and of one more; the constant may be of any length; a fault anywhere is told ahead of ErrLong.
func TestReadLong(t *testing.T) {
	gap := `\` + strings.Repeat(" ", 1000000) + `\`
	gaps := strings.Repeat(`\ \`, 100000)
	numbers := strings.Repeat(`\u00c8`, api.MaxString)
	for _, c := range []struct{ s, want string }{
		{full, full}, {numbers, strings.Repeat("\xc8", api.MaxString)}, {strings.Repeat(`\200`, api.MaxString), strings.Repeat("\xc8", api.MaxString)}, {gap + full + gap, full}, {gaps + full + gaps, full}, {full[:9] + gaps + full[9:], full}, {gaps, ""}, {full[1:] + `\n`, full[1:] + "\n"},
	} {
		sameRead(t, c.s, c.want, 0, api.OK)
	}
	for _, s := range []string{over, full + `\n`, numbers + "a", numbers + numbers, full + gap + "x", gaps + full + "x" + gap, "x" + full, strings.Repeat("a", 1<<24), full + full + gap} {
		sameRead(t, s, "", 0, api.ErrLong)
	}
	for _, s := range []string{full, over, over + over, numbers, full + full + full, gaps + over} {
		for _, bad := range []string{`"`, "\n", "\xff", `\`, `\q`, `\256`, `\ `, `\ "`} {
			sameRead(t, s+bad, "", len(s), api.ErrConstant)
			sameRead(t, s+bad+"x"+s, "", len(s), api.ErrConstant)
			sameRead(t, "x"+bad+"x"+s, "", 1, api.ErrConstant)
		}
	}
}

// piece is what a constant can begin with, by the words of P3.4.
var piece = regexp.MustCompile(`^(?:[ !#-\[\]-~]|\\(?:[abtnvfr"\\]|\^[@-_]|[01][0-9][0-9]|2[0-4][0-9]|25[0-5]|u00[0-9a-fA-F][0-9a-fA-F]|[\t\n\f\r ]+\\))`)

// meant is the string of a constant, piece by piece, the place of a fault, and whether there is none.
func meant(s string) (string, int, bool) {
	all, i := "", 0
	for i < len(s) {
		p := piece.FindString(s[i:])
		if p == "" {
			return "", i, false
		}
		i += len(p)
		n, letter := named[p]
		switch {
		case p[0] != '\\':
			all += p
		case letter:
			all += bytewise(n)
		case p[1] == '^':
			all += bytewise(p[2] - 64)
		case p[1] == 'u':
			b, _ := hex.DecodeString(p[4:])
			all += string(b)
		case p[1] >= '0' && p[1] <= '9':
			d, _ := strconv.Atoi(p[1:])
			all += bytewise(byte(d))
		}
	}
	return all, 0, true
}

// checkRead holds Read against the pieces.
func checkRead(t *testing.T, s string) {
	t.Helper()
	want, place, ok := meant(s)
	switch {
	case !ok:
		sameRead(t, s, "", place, api.ErrConstant)
	case len(want) > api.MaxString:
		sameRead(t, s, "", 0, api.ErrLong)
	default:
		sameRead(t, s, want, 0, api.OK)
	}
}

// P3.4: every byte put at every place of a text of all forms, and instead of it; the text cut off at every place.
func TestReadBytes(t *testing.T) {
	s := "a\\n\\\"\\\\b\\^A\\^\\\\255\\u00Fa\\\t \n\\c\\ \\"
	for i := range len(s) + 1 {
		checkRead(t, s[:i])
		checkRead(t, s[i:])
		for c := range 256 {
			b := bytewise(byte(c))
			checkRead(t, s[:i]+b+s[i:])
			if i < len(s) {
				checkRead(t, s[:i]+b+s[i+1:])
			}
		}
	}
}

// P3.4: all texts of two bytes, and all of up to five of the bytes that matter.
func TestReadShort(t *testing.T) {
	for a := range 256 {
		for b := range 256 {
			checkRead(t, bytewise(byte(a), byte(b)))
			checkRead(t, bytewise('\\', byte(a), byte(b)))
		}
	}
	const signs = "\\\"nu^02 A"
	texts := []string{""}
	for range 5 {
		var longer []string
		for _, s := range texts {
			for i := range len(signs) {
				longer = append(longer, s+signs[i:i+1])
			}
		}
		for _, s := range longer {
			checkRead(t, s)
		}
		texts = longer
	}
}

// P3.3, P3.4: what is written is read as it was, and is all of plain bytes.
func TestThereAndBack(t *testing.T) {
	r := rand.New(rand.NewSource(3))
	l := []string{"", allBytes(), full, strings.Repeat("\xff", 16384), `\ \`, `\065`, "\\", "\"", "\x001", "\x1c\x1c\\"}
	for range 5000 {
		b := make([]byte, r.Intn(50))
		for i := range b {
			b[i] = byte(r.Intn(256)) >> r.Intn(4)
		}
		l = append(l, string(b))
	}
	for _, s := range l {
		checkBack(t, s)
	}
}

// checkBack reads what was written of s.
func checkBack(t *testing.T, s string) {
	t.Helper()
	text, e := Escape(s)
	if e != api.OK {
		return // too long: TestEscapeLong says when
	}
	sameRead(t, text, s, 0, api.OK)
	if i := strings.IndexFunc(text, func(c rune) bool { return c < 32 || c > 126 }); i >= 0 {
		t.Errorf("Escape(%q) has the byte %d", head(s), text[i])
	}
}

// FuzzRead holds the reader against its pieces, and against the writer.
func FuzzRead(f *testing.F) {
	for _, s := range []string{"", `a\065\u0042\^@\   \c`, `ab\q`, "\\\t\n\f\r \\", `\256`, `\u0100`, `\^\\`, "\xff\"\\\x01"} {
		f.Add(s)
	}
	f.Fuzz(func(t *testing.T, s string) {
		checkRead(t, s)
		checkBack(t, s)
	})
}
