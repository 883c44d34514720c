package fix

import (
	"math/big"
	"strconv"
	"strings"
	"testing"

	"kiln/api"
)

// P1.3: digits, and a tilde below 0.
func TestText(t *testing.T) {
	for n, want := range map[int64]string{
		0: "0", 7: "7", -5: "~5", 10: "10", -100: "~100",
		api.MaxFix: "4611686018427387903", api.MinFix: "~4611686018427387904",
	} {
		if s, e := Text(n); s != want || e != api.OK {
			t.Errorf("Text(%d) = %q, %d; want %q", n, s, e, want)
		}
	}
	for _, n := range strangers {
		if s, e := Text(n); s != "" || e != api.ErrArg {
			t.Errorf("Text(%d) = %q, %d; want ErrArg", n, s, e)
		}
	}
}

// P1.3, P1.4, P1.5: what is written is read as it was.
func TestThereAndBack(t *testing.T) {
	for _, n := range numbers() {
		s, _ := Text(n)
		if m, e := Constant(s); m != n || e != api.OK {
			t.Errorf("Constant(%q) = %d, %d; want %d", s, m, e, n)
		}
		if m, k, e := Scan(s); m != n || k != len(s) || e != api.OK {
			t.Errorf("Scan(%q) = %d, %d, %d; want %d, %d", s, m, k, e, n, len(s))
		}
	}
}

// P1.4: texts that are constants, in range or not.
func TestConstant(t *testing.T) {
	zeros := strings.Repeat("0", 1<<20)
	for _, c := range []struct {
		s    string
		want int64
		e    api.Errno
	}{
		{"0", 0, 0}, {"~0", 0, 0}, {"007", 7, 0}, {"~12", -12, 0}, {"1234567890", 1234567890, 0},
		{"0x0", 0, 0}, {"~0x1F", -31, 0}, {"0xabcdef", 0xabcdef, 0}, {"0xABCDEF", 0xabcdef, 0}, {"0x0123456789", 0x123456789, 0}, {"0x00fF", 255, 0},
		{"4611686018427387903", api.MaxFix, 0}, {"4611686018427387904", 0, api.ErrOverflow},
		{"~4611686018427387904", api.MinFix, 0}, {"~4611686018427387905", 0, api.ErrOverflow},
		{"0x3fffffffffffffff", api.MaxFix, 0}, {"0x4000000000000000", 0, api.ErrOverflow},
		{"~0x4000000000000000", api.MinFix, 0}, {"~0x4000000000000001", 0, api.ErrOverflow},
		{"18446744073709551616", 0, api.ErrOverflow}, {"18446744073709551617", 0, api.ErrOverflow},
		{"0x10000000000000000", 0, api.ErrOverflow}, {"~0x10000000000000001", 0, api.ErrOverflow},
		{"46116860184273879040", 0, api.ErrOverflow}, {"0x40000000000000000", 0, api.ErrOverflow},
		{zeros, 0, 0}, {zeros + "42", 42, 0}, {"~" + zeros + "42", -42, 0}, {"0x" + zeros + "2a", 42, 0},
		{"1" + zeros, 0, api.ErrOverflow}, {"~1" + zeros, 0, api.ErrOverflow}, {"0x1" + zeros, 0, api.ErrOverflow},
		{strings.Repeat("9", 1<<20), 0, api.ErrOverflow}, {"~0x" + strings.Repeat("f", 1<<20), 0, api.ErrOverflow},
	} {
		if n, e := Constant(c.s); n != c.want || e != c.e {
			t.Errorf("Constant(%q) = %d, %d; want %d, %d", head(c.s), n, e, c.want, c.e)
		}
	}
}

// P1.4: texts that are none, however great what they begin with is.
func TestConstantWrong(t *testing.T) {
	for _, s := range []string{
		"", "~", "-1", "+1", "~~1", "~-1", "0x", "~0x", "0X1", "x1", "0xg", "0x1g", "0x~1", "0x0x1", "00x1", "1x1",
		"a", "1a", "F", "1_0", "1.0", "1e1", " 1", "1 ", "~ 1", "1\n", "1\x00", "\x001", "1/", "1:", "0x1@", "0x1`", "0x1G",
		"1\xff", "\xff", "\x80", "\xd9\xa1", "1\xef\xbc\x91", "1\xef\xbf\xbd",
		"99999999999999999999x", "~99999999999999999999~", "0xffffffffffffffffffffg", "9999999999999999999999f",
	} {
		if n, e := Constant(s); n != 0 || e != api.ErrDigits {
			t.Errorf("Constant(%q) = %d, %d; want ErrDigits", s, n, e)
		}
	}
}

// P1.4: every number near an edge, in both bases.
func TestConstantEdges(t *testing.T) {
	for _, edge := range []string{"4611686018427387904", "9223372036854775808", "18446744073709551616", "46116860184273879040"} {
		for d := int64(-40); d <= 40; d++ {
			amount, _ := new(big.Int).SetString(edge, 10)
			amount.Add(amount, big.NewInt(d))
			for text, n := range map[string]*big.Int{
				amount.Text(10):         amount,
				"0x" + amount.Text(16):  amount,
				"~" + amount.Text(10):   new(big.Int).Neg(amount),
				"~0x" + amount.Text(16): new(big.Int).Neg(amount),
			} {
				want, wantErr := whole(n)
				if got, e := Constant(text); got != want || e != wantErr {
					t.Errorf("Constant(%q) = %d, %d; want %d, %d", text, got, e, want, wantErr)
				}
			}
		}
	}
}

// P1.5: the number at a text's beginning, and how far it goes.
func TestScan(t *testing.T) {
	many := strings.Repeat("0", 1<<20)
	for _, c := range []struct {
		s    string
		want int64
		size int
		e    api.Errno
	}{
		{"12", 12, 2, 0}, {"0", 0, 1, 0}, {"007x", 7, 3, 0}, {" ~12ab", -12, 4, 0},
		{"-5", -5, 2, 0}, {"+5", 5, 2, 0}, {"~0", 0, 2, 0}, {"-0-", 0, 2, 0}, {"1 2", 1, 1, 0}, {"1~", 1, 1, 0}, {"1.5", 1, 1, 0},
		{"\t\n\v\f\r 3", 3, 7, 0}, {"  +4 ", 4, 4, 0}, {"0x1F", 0, 1, 0}, {"7f", 7, 1, 0}, {"7\xff", 7, 1, 0}, {"7\x00", 7, 1, 0},
		{"4611686018427387903!", api.MaxFix, 19, 0}, {"-4611686018427387904", api.MinFix, 20, 0}, {"~4611686018427387904", api.MinFix, 20, 0},
		{"4611686018427387904", 0, 19, api.ErrOverflow}, {" +4611686018427387904x", 0, 21, api.ErrOverflow},
		{"~4611686018427387905", 0, 20, api.ErrOverflow}, {"18446744073709551617,", 0, 20, api.ErrOverflow},
		{"99999999999999999999 ", 0, 20, api.ErrOverflow},
		{many + "9a", 9, 1<<20 + 1, 0}, {"-1" + many + "z", 0, 1<<20 + 2, api.ErrOverflow}, {strings.Repeat(" ", 1<<20) + "8", 8, 1<<20 + 1, 0},
	} {
		if n, k, e := Scan(c.s); n != c.want || k != c.size || e != c.e {
			t.Errorf("Scan(%q) = %d, %d, %d; want %d, %d, %d", head(c.s), n, k, e, c.want, c.size, c.e)
		}
	}
}

// P1.5: texts that begin with no number.
func TestScanWrong(t *testing.T) {
	for _, s := range []string{
		"", "x", " ", "\t\n", "~", "-", "+", "~~1", "--1", "+-1", "-+1", "~ 1", "- 1", "a1", "~x", ".5", ":1", "/1",
		"\x00" + "1", "\b1", "\x0e1", "\x1f1", "!1", "\x851", "\xa01", "\xc2\xa01", "\xe2\x80\x831", "\xff1", "\xd9\xa1", "\xef\xbc\x91",
	} {
		if n, k, e := Scan(s); n != 0 || k != 0 || e != api.ErrDigits {
			t.Errorf("Scan(%q) = %d, %d, %d; want ErrDigits", s, n, k, e)
		}
	}
}

// P1.5: which single bytes may stand ahead, and which are signs.
func TestScanBytes(t *testing.T) {
	for b := 0; b < 256; b++ {
		want, size, wantErr := int64(0), 0, api.ErrDigits
		switch {
		case b >= 9 && b <= 13, b == 32, b == '+':
			want, size, wantErr = 6, 2, api.OK
		case b == '~', b == '-':
			want, size, wantErr = -6, 2, api.OK
		case b >= '0' && b <= '9':
			want, size, wantErr = int64(b-'0')*10+6, 2, api.OK
		}
		s := string([]byte{byte(b), '6'})
		if n, k, e := Scan(s); n != want || k != size || e != wantErr {
			t.Errorf("Scan(%q) = %d, %d, %d; want %d, %d, %d", s, n, k, e, want, size, wantErr)
		}
	}
}

// P1.4: which single bytes are digits, in both bases.
func TestConstantBytes(t *testing.T) {
	for b := 0; b < 256; b++ {
		for _, c := range []struct {
			ahead string
			base  int
		}{{"3", 10}, {"0x3", 16}} {
			want, wantErr := int64(0), api.ErrDigits
			if d, err := strconv.ParseUint(string([]byte{byte(b)}), c.base, 8); err == nil {
				want, wantErr = int64(3*c.base)+int64(d), api.OK
			}
			s := c.ahead + string([]byte{byte(b)})
			if n, e := Constant(s); n != want || e != wantErr {
				t.Errorf("Constant(%q) = %d, %d; want %d, %d", s, n, e, want, wantErr)
			}
		}
	}
}

// FuzzTexts holds both readers against whole numbers without bound.
func FuzzTexts(f *testing.F) {
	for _, s := range []string{"", "~0x1F", "-1", " ~12ab", "99999999999999999999 ", "4611686018427387904", "\xff1", "0x"} {
		f.Add(s)
	}
	f.Fuzz(func(t *testing.T, s string) {
		wantC, errC := constantWithoutBound(s)
		if n, e := Constant(s); n != wantC || e != errC {
			t.Errorf("Constant(%q) = %d, %d; want %d, %d", s, n, e, wantC, errC)
		}
		wantS, size, errS := scanWithoutBound(s)
		if n, k, e := Scan(s); n != wantS || k != size || e != errS {
			t.Errorf("Scan(%q) = %d, %d, %d; want %d, %d, %d", s, n, k, e, wantS, size, errS)
		}
	})
}

func constantWithoutBound(s string) (int64, api.Errno) {
	below := strings.HasPrefix(s, "~")
	digits, base, set := strings.TrimPrefix(s, "~"), 10, "0123456789"
	if strings.HasPrefix(digits, "0x") {
		digits, base, set = digits[2:], 16, "0123456789abcdefABCDEF"
	}
	if digits == "" || strings.Trim(digits, set) != "" {
		return 0, api.ErrDigits
	}
	return signedWithoutBound(digits, base, below)
}

func scanWithoutBound(s string) (int64, int, api.Errno) {
	i := 0
	for i < len(s) && (s[i] == 32 || s[i] >= 9 && s[i] <= 13) {
		i++
	}
	below := false
	if i < len(s) && (s[i] == '~' || s[i] == '-' || s[i] == '+') {
		below = s[i] != '+'
		i++
	}
	k := i
	for k < len(s) && s[k] >= '0' && s[k] <= '9' {
		k++
	}
	if k == i {
		return 0, 0, api.ErrDigits
	}
	n, e := signedWithoutBound(s[i:k], 10, below)
	return n, k, e
}

func signedWithoutBound(digits string, base int, below bool) (int64, api.Errno) {
	n, _ := new(big.Int).SetString(digits, base)
	if below {
		n.Neg(n)
	}
	return whole(n)
}

// head is what of a long text is worth being shown.
func head(s string) string {
	if len(s) > 60 {
		return s[:60] + ".."
	}
	return s
}
