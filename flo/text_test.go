package flo

import (
	"math"
	"math/big"
	"math/rand"
	"regexp"
	"strconv"
	"strings"
	"testing"

	"kiln/api"
)

// tens is 10^n.
func tens(n int) *big.Rat {
	p := new(big.Rat).SetInt(new(big.Int).Exp(big.NewInt(10), big.NewInt(int64(max(n, -n))), nil))
	if n < 0 {
		p.Inv(p)
	}
	return p
}

// leastDigits is the digits and the exponent of P2.6, found by trying: of a finite real above 0.
func leastDigits(x float64) (string, int) {
	a := rat(x)
	e := int(math.Floor(math.Log10(x))) + 1
	for a.Cmp(tens(e)) >= 0 {
		e++
	}
	for a.Cmp(tens(e-1)) < 0 {
		e--
	}
	for n := 1; ; n++ {
		unit := tens(e - n)
		q := new(big.Rat).Quo(a, unit)
		low := new(big.Int).Quo(q.Num(), q.Denom())
		var best *big.Int
		var far *big.Rat
		for _, d := range []*big.Int{low, new(big.Int).Add(low, big.NewInt(1))} {
			r := new(big.Rat).Mul(new(big.Rat).SetInt(d), unit)
			if nearest(r) != x {
				continue
			}
			f := r.Sub(r, a)
			f.Abs(f)
			if best == nil || f.Cmp(far) < 0 || f.Cmp(far) == 0 && d.Bit(0) == 0 {
				best, far = d, f
			}
		}
		if best == nil {
			continue
		}
		s := best.String()
		if len(s) > n { // a power of 10 above all that have n digits
			e++
		}
		return strings.TrimRight(s, "0"), e
	}
}

// laidOut is the text of P2.6 with these digits.
func laidOut(d string, e int) string {
	switch {
	case e < -3 || e > 15:
		rest := d[1:]
		if rest == "" {
			rest = "0"
		}
		exponent := strconv.Itoa(e - 1)
		if e-1 < 0 {
			exponent = "~" + strconv.Itoa(1-e)
		}
		return d[:1] + "." + rest + "E" + exponent
	case e <= 0:
		return "0." + strings.Repeat("0", -e) + d
	}
	for len(d) < e+1 {
		d += "0"
	}
	return d[:e] + "." + d[e:]
}

// P2.6: what the document names, and both ends of what is written without an exponent.
func TestText(t *testing.T) {
	for _, c := range []struct {
		x    float64
		want string
	}{
		{nan, "nan"}, {inf, "inf"}, {-inf, "~inf"}, {0, "0.0"}, {minus0, "~0.0"},
		{100, "100.0"}, {1, "1.0"}, {-1, "~1.0"}, {0.1, "0.1"}, {12.5, "12.5"}, {-0.25, "~0.25"}, {123456.789, "123456.789"}, {10, "10.0"},
		{1e14, "100000000000000.0"}, {999999999999999, "999999999999999.0"}, {123456789012345.6, "123456789012345.6"}, {999999999999999.9, "999999999999999.9"}, {1e15, "1.0E15"}, {1.5e15, "1.5E15"}, {1234567890123456, "1.234567890123456E15"}, {1e16, "1.0E16"}, {1e21, "1.0E21"}, {1e22, "1.0E22"}, {1e23, "1.0E23"},
		{0.001, "0.001"}, {0.0001, "0.0001"}, {0.00012345, "0.00012345"}, {0.00099, "0.00099"}, {0.00009999, "9.999E~5"}, {0.00001, "1.0E~5"}, {0.000015, "1.5E~5"}, {1e-10, "1.0E~10"}, {-2.5e-7, "~2.5E~7"}, {0.5, "0.5"}, {0.05, "0.05"},
		{-1.5e300, "~1.5E300"}, {least, "5.0E~324"}, {-least, "~5.0E~324"}, {2 * least, "1.0E~323"}, {3 * least, "1.5E~323"}, {highest, "2.225073858507201E~308"}, {lowest, "2.2250738585072014E~308"}, {math.MaxFloat64, "1.7976931348623157E308"}, {-math.MaxFloat64, "~1.7976931348623157E308"},
		{0.30000000000000004, "0.30000000000000004"}, {1.0 / 3, "0.3333333333333333"}, {2.0 / 3, "0.6666666666666666"}, {math.Nextafter(1, 2), "1.0000000000000002"}, {math.Nextafter(1, 0), "0.9999999999999999"}, {math.Pi, "3.141592653589793"},
		{0x1p53, "9.007199254740992E15"}, {0x1p62, "4.611686018427388E18"}, {0x1p63, "9.223372036854776E18"}, {0x1p-1022, "2.2250738585072014E~308"}, {9007199254740993, "9.007199254740992E15"},
		{1125899906842624.25, "1.1258999068426242E15"}, {1125899906842624.75, "1.1258999068426248E15"}, {2251799813685247.25, "2.2517998136852472E15"}, {1125899906842625.75, "1.1258999068426258E15"},
	} {
		if s := Text(c.x); s != c.want {
			t.Errorf("Text(%v) = %q; want %q", c.x, s, c.want)
		}
	}
	for _, u := range nans {
		if s := Text(math.Float64frombits(u)); s != "nan" {
			t.Errorf("Text of the NaN %x = %q", u, s)
		}
	}
}

// P2.6: the digits of edges, of powers of 2 and 10 and of what stands next to them, of small ones and of any others: found by trying.
func TestTextDigits(t *testing.T) {
	l := finite()
	r := rand.New(rand.NewSource(9))
	for e := -1074; e < 1024; e++ { // where the reals below are closer than those above
		l = append(l, math.Ldexp(1, e))
	}
	for e := -323; e <= 308; e++ {
		x, _ := strconv.ParseFloat("1e"+strconv.Itoa(e), 64)
		l = append(l, math.Nextafter(x, 0), x, math.Nextafter(x, inf))
	}
	for e := -6; e < 18; e++ {
		for range 20 {
			l = append(l, math.Trunc(r.Float64()*1000)*math.Pow10(e), r.Float64()*math.Pow10(e))
		}
	}
	for range 1000 {
		l = append(l, math.Float64frombits(r.Uint64()>>12>>r.Intn(50)), 1125899906842624+r.Float64()*1125899906842623)
	}
	for _, x := range l {
		if x == 0 || Class(x) < 2 {
			continue
		}
		want := laidOut(leastDigits(math.Abs(x)))
		if x < 0 {
			want = "~" + want
		}
		if s := Text(x); s != want {
			t.Errorf("Text(%v) = %q; want %q", x, s, want)
		}
	}
}

// P2.8: what is written is read as it was.
func TestThereAndBack(t *testing.T) {
	l := finite()
	r := rand.New(rand.NewSource(10))
	for len(l) < 50000 {
		if x := math.Float64frombits(r.Uint64()); Class(x) > 1 {
			l = append(l, x)
		}
		l = append(l, math.Float64frombits(r.Uint64()>>r.Intn(64)&^(1<<62)), float64(r.Intn(1<<20))/1024)
	}
	for _, x := range l {
		s := Text(x)
		if y, e := Parse(s); !alike(x, y) || e != api.OK {
			t.Errorf("Parse(%q) = %v, %d; want %v", s, y, e, x)
		}
	}
}

// P2.7: texts of the form.
func TestParse(t *testing.T) {
	for _, c := range []struct {
		s    string
		want float64
	}{
		{"0.0", 0}, {"~0.0", minus0}, {"0E0", 0}, {"~0E0", minus0}, {"~0e~7", minus0}, {"000.000", 0}, {"1.0", 1}, {"~1.0", -1}, {"00.10", 0.1}, {"3.14", 3.14}, {"1E3", 1000}, {"1e3", 1000}, {"1E~3", 0.001}, {"1e~3", 0.001}, {"12.5E2", 1250}, {"~12.5e~2", -0.125}, {"1.5E0", 1.5}, {"1.5E~0", 1.5}, {"007E002", 700}, {"1E~002", 0.01},
		{"1E400", inf}, {"~1E400", -inf}, {"1E~400", 0}, {"~1E~400", minus0}, {"0E99999999999", 0}, {"~0.0E99999999999", minus0}, {"0.1E309", 1e308}, {"10E~309", 1e-308}, {"1.7976931348623157E308", math.MaxFloat64}, {"1.7976931348623158E308", math.MaxFloat64}, {"1.7976931348623159E308", inf}, {"~1.7976931348623159E308", -inf},
		{"4.9E~324", least}, {"5E~324", least}, {"3E~324", least}, {"2.5E~324", least}, {"2.4E~324", 0}, {"~2.4E~324", minus0}, {"2.2250738585072011E~308", highest}, {"2.2250738585072012E~308", lowest},
		{"9007199254740992.0", 0x1p53}, {"9007199254740993.0", 0x1p53}, {"9007199254740995.0", 0x1p53 + 4}, {"9007199254740993.00000000000000000000001", 0x1p53 + 2}, {"0.30000000000000004", 0.30000000000000004}, {"4611686018427387904.0", 0x1p62}, {"18446744073709551616.0", 0x1p64},
	} {
		if x, e := Parse(c.s); !alike(x, c.want) || e != api.OK {
			t.Errorf("Parse(%q) = %v, %d; want %v", c.s, x, e, c.want)
		}
	}
}

// P2.7: texts up to the limit: noughts, digits and exponents of any length.
func TestParseLong(t *testing.T) {
	noughts, nines := strings.Repeat("0", 4000), strings.Repeat("9", 4000)
	for _, c := range []struct {
		s    string
		want float64
	}{
		{"1E" + nines, inf}, {"~1E" + nines, -inf}, {"1E~" + nines, 0}, {"~1E~" + nines, minus0}, {"0E" + nines, 0}, {"0.0E~" + nines, 0}, {"1E" + noughts + "5", 1e5}, {"1E~" + noughts + "5", 1e-5}, {"1E" + noughts, 1},
		{"0." + noughts + "1E4001", 1}, {"0." + noughts + "1E4310", inf}, {"0." + noughts + "1E4309", 1e308}, {"1" + noughts + ".0E~4000", 1}, {"1" + noughts + "E~4324", 0}, {"1" + noughts + "E~4323", 1e-323}, {noughts + "1.5", 1.5}, {nines + ".0E~4000", 1}, {"0." + nines, 1}, {nines + ".0", inf}, {"1." + noughts, 1},
		{"0." + noughts + "1E10000", inf}, {"0." + noughts + "1E100000", inf}, {"1" + noughts + "E~10000", 0}, {"1" + noughts + "E~99999999999999999999", 0}, {"1E18446744073709551617", inf}, {"1E~18446744073709551617", 0}, {"1E9223372036854775808", inf}, {"1E4294967297", inf}, {"1E~4294967296", 0}, {"1E~65536", 0},
	} {
		if x, e := Parse(c.s); !alike(x, c.want) || e != api.OK {
			t.Errorf("Parse(%q) = %v, %d; want %v", head(c.s), x, e, c.want)
		}
	}
	full := "1." + strings.Repeat("0", api.MaxLiteral-3) + "1"
	if x, e := Parse(full); len(full) != api.MaxLiteral || x != 1 || e != api.OK {
		t.Errorf("%d bytes: %v, %d", len(full), x, e)
	}
	for _, s := range []string{full + "0", strings.Repeat("x", api.MaxLiteral+1), strings.Repeat("1", api.MaxLiteral+1), strings.Repeat(" ", 1<<20)} {
		if x, e := Parse(s); x != 0 || e != api.ErrLong {
			t.Errorf("%d bytes: %v, %d; want ErrLong", len(s), x, e)
		}
	}
	for _, s := range []string{full[1:] + "0", full[:api.MaxLiteral-1] + "x", strings.Repeat("1", api.MaxLiteral), strings.Repeat("1", api.MaxLiteral-1) + "."} {
		if x, e := Parse(s); len(s) != api.MaxLiteral || x != 0 || e != api.ErrReal {
			t.Errorf("%d bytes: %v, %d; want ErrReal", len(s), x, e)
		}
	}
}

// decimal is an exact number whose denominator is a power of 2, with all its digits.
func decimal(r *big.Rat) string { return r.FloatString(max(1, r.Denom().BitLen()-1)) }

// P2.7: numbers halfway between two reals go to the even one, and the least digit more or less, however far behind, turns them.
func TestParseHalfway(t *testing.T) {
	r := rand.New(rand.NewSource(11))
	l := []uint64{0, 1, 2, 3, 1<<52 - 2, 1<<52 - 1, 1 << 52, 1<<52 + 1, 0x3FF0000000000000, 0x433FFFFFFFFFFFFF, 0x4340000000000000, 0x7FEFFFFFFFFFFFFE}
	for range 100 {
		l = append(l, r.Uint64()>>1%0x7FEFFFFFFFFFFFFF)
	}
	for _, u := range l {
		low, high := math.Float64frombits(u), math.Float64frombits(u+1)
		even := low
		if u&1 == 1 {
			even = high
		}
		mid := new(big.Rat).Add(rat(low), rat(high))
		checkAround(t, mid.Quo(mid, big.NewRat(2, 1)), low, even, high)
	}
	edge := new(big.Int).Lsh(big.NewInt(1), 1024)
	edge.Sub(edge, new(big.Int).Lsh(big.NewInt(1), 970))
	checkAround(t, new(big.Rat).SetInt(edge), math.MaxFloat64, inf, inf)
}

// checkAround reads a number between two reals, and what is a trifle below and above it.
func checkAround(t *testing.T, r *big.Rat, below, at, above float64) {
	t.Helper()
	s := decimal(r)
	tail := strings.Repeat("0", api.MaxLiteral-2-len(s))
	last := strings.LastIndexAny(s, "123456789")
	less := s[:last] + string(s[last]-1) + strings.Map(func(c rune) rune {
		if c == '0' {
			return '9'
		}
		return c
	}, s[last+1:]) + strings.Repeat("9", len(tail))
	for text, want := range map[string]float64{s: at, s + tail: at, s + tail + "1": above, less: below} {
		for sign, want := range map[string]float64{"": want, "~": -want} {
			if x, e := Parse(sign + text); !alike(x, want) || e != api.OK {
				t.Errorf("Parse(%q) of %d bytes = %v, %d; want %v", head(sign+text), len(text), x, e, want)
			}
		}
	}
}

// P2.7: texts that have not the form.
func TestParseWrong(t *testing.T) {
	for _, s := range []string{
		"", "~", "1", "~1", "0", "007", "1.", "~1.", ".5", "~.5", ".", "-1.0", "+1.0", "~~1.0", "~-1.0", "1.0~", "1~.0", "1.~0", "1 .0", " 1.0", "1.0 ", "1.0\n", "1.0\x00", "1,0",
		"E", "E5", "~E5", "1E", "1e", "1E~", "1e~", "1.E5", ".5E5", "1.0E", "1.0e~", "1.0E+5", "1.0E-5", "1E+5", "1E-5", "1E~~5", "1E5.", "1E5.0", "1E.5", "1.0E5E5", "1EE5", "1Ee5", "1.5.5", "1..5", "1.0E5~", "1E5 ", "1 E5", "1E 5",
		"inf", "~inf", "nan", "Inf", "infinity", "NaN", "0x1p5", "0x1.8p1", "0x1E5", "1p5", "1_0.0", "1.0_0", "1E1_0", "1_000E5", "0b1.0", "1.0f", "1.0i", "1.a", "a.1", "1/2.0", "1:2.0", "1.0/", "1.0:",
		"\xd9\xa1.0", "1.\xd9\xa1", "\xef\xbc\x91.0", "1.0E\xef\xbc\x91", "1.0\xff", "\xff1.0", "1\xff.0", "1.\xff0",
	} {
		if x, e := Parse(s); x != 0 || e != api.ErrReal {
			t.Errorf("Parse(%q) = %v, %d; want ErrReal", s, x, e)
		}
	}
}

// form is that of P2.7.
var form = regexp.MustCompile(`^~?[0-9]+(\.[0-9]+|[Ee]~?[0-9]+|\.[0-9]+[Ee]~?[0-9]+)$`)

// P2.7: every single byte at every place of a text of each form.
func TestParseBytes(t *testing.T) {
	for _, s := range []string{"~12.34E~56", "1.2", "1e2", "~1E~2"} {
		for i := range len(s) + 1 {
			for b := range 256 {
				put, instead := s[:i]+string([]byte{byte(b)})+s[i:], ""
				if i < len(s) {
					instead = s[:i] + string([]byte{byte(b)}) + s[i+1:]
				}
				for _, text := range []string{put, instead} {
					checkParse(t, text)
				}
			}
		}
	}
}

// checkParse holds Parse against exact numbers, while the exponent is small enough for them.
func checkParse(t *testing.T, s string) {
	t.Helper()
	x, e := Parse(s)
	switch {
	case len(s) > api.MaxLiteral:
		if x != 0 || e != api.ErrLong {
			t.Errorf("Parse(%q) = %v, %d; want ErrLong", head(s), x, e)
		}
		return
	case strings.HasSuffix(s, "\n") || !form.MatchString(s):
		if x != 0 || e != api.ErrReal {
			t.Errorf("Parse(%q) = %v, %d; want ErrReal", head(s), x, e)
		}
		return
	}
	_, exponent, _ := strings.Cut(strings.ToUpper(s), "E")
	if len(exponent) > 4 {
		if e != api.OK {
			t.Errorf("Parse(%q) = %v, %d", head(s), x, e)
		}
		return
	}
	r, ok := new(big.Rat).SetString(strings.ReplaceAll(s, "~", "-"))
	if !ok {
		t.Fatalf("%q is no number", s)
	}
	want := 0.0
	if r.Sign() != 0 {
		want = nearest(r)
	} else if s[0] == '~' {
		want = minus0
	}
	if !alike(x, want) || e != api.OK {
		t.Errorf("Parse(%q) = %v, %d; want %v", head(s), x, e, want)
	}
}

// FuzzParse holds the reader against exact numbers.
func FuzzParse(f *testing.F) {
	for _, s := range []string{"", "1", "1.0", "~1E~5", "12.5e300", "1.7976931348623159E308", "2.4703282292062327E~324", "inf", "0x1p5"} {
		f.Add(s)
	}
	f.Fuzz(checkParse)
}

// head is what of a long text is worth being shown.
func head(s string) string {
	if len(s) > 60 {
		return s[:60] + ".."
	}
	return s
}
