package str

import (
	"math"
	"math/big"
	"slices"
	"strings"
	"testing"
	"unsafe"

	"kiln/api"
)

// full has just MaxString bytes, over one more: that is no string.
var (
	full = strings.Repeat("0123456789abcdef", api.MaxString/16)
	over = full + "x"
)

// far are numbers beyond every string's length, and below 0.
var far = []int64{-1, -2, -256, math.MinInt32, math.MinInt64, math.MinInt64 + 1, api.MaxString + 1, math.MaxInt32, 1 << 32, 1<<32 + 1, math.MaxInt64, math.MaxInt64 - 1}

// bytewise is the text of these bytes.
func bytewise(l ...byte) string { return string(l) }

// allBytes is each of the 256 once, in their order.
func allBytes() string {
	l := make([]byte, 256)
	for i := range l {
		l[i] = byte(i)
	}
	return string(l)
}

// sameText fails the test, if a call answered otherwise than it must.
func sameText(t *testing.T, call, got string, gotErr api.Errno, want string, wantErr api.Errno) {
	t.Helper()
	if got != want || gotErr != wantErr {
		t.Errorf("%s = %q of %d bytes, %d; want %q of %d bytes, %d", call, head(got), len(got), gotErr, head(want), len(want), wantErr)
	}
}

// head is what of a long text is worth being shown.
func head(s string) string {
	if len(s) > 60 {
		return s[:60] + ".."
	}
	return s
}

// P3.1: a string has at most MaxString bytes, whatever they are.
func TestRight(t *testing.T) {
	for _, s := range []string{"", "a", "\x00", "\xff\xfe", allBytes(), full[1:], full, strings.Repeat("\xff", api.MaxString), strings.Repeat("\x00", api.MaxString)} {
		if !Right(s) {
			t.Errorf("Right(%q) of %d bytes = false", head(s), len(s))
		}
	}
	for _, s := range []string{over, strings.Repeat("\xff", api.MaxString+1), strings.Repeat("\x00", api.MaxString+1), full + full, strings.Repeat("é", api.MaxString/2+1), strings.Repeat("a", 1<<24)} {
		if Right(s) {
			t.Errorf("Right(%q) of %d bytes = true", head(s), len(s))
		}
	}
}

// P3.1: none, one, some and many strings.
func TestCat(t *testing.T) {
	ones := make([]string, api.MaxString)
	for i := range ones {
		ones[i] = full[i : i+1]
	}
	empty := make([]string, 1000000)
	for _, c := range []struct {
		l    []string
		want string
	}{
		{nil, ""}, {[]string{}, ""}, {[]string{""}, ""}, {[]string{"", "", ""}, ""}, {empty, ""},
		{[]string{"a"}, "a"}, {[]string{"ab", "", "c"}, "abc"}, {[]string{"", "a"}, "a"}, {[]string{"a", ""}, "a"}, {[]string{"b", "a"}, "ba"}, {[]string{"ab", "ab", "ab"}, "ababab"},
		{[]string{"\x00", "\xff", "\xc3", "\xa9", "\n"}, "\x00\xff\xc3\xa9\n"}, {[]string{allBytes(), allBytes()}, allBytes() + allBytes()},
		{[]string{full}, full}, {[]string{full, ""}, full}, {[]string{"", full, "", ""}, full}, {[]string{full[:1], full[1:]}, full}, {[]string{full[:40000], full[40000:65535], full[65535:]}, full}, {ones, full}, {append(slices.Clone(empty), "a"), "a"},
	} {
		s, e := Cat(c.l...)
		sameText(t, "Cat", s, e, c.want, api.OK)
	}
	if s, e := Cat(); s != "" || e != api.OK {
		t.Errorf("Cat() = %q, %d", s, e)
	}
}

// P3.1: an argument that is no string is told ahead of an answer that would be none, wherever it stands.
func TestCatWrong(t *testing.T) {
	halves := []string{full[:32768], full[:32769]}
	many := make([]string, 100000)
	for i := range many {
		many[i] = full
	}
	for _, c := range []struct {
		l    []string
		want api.Errno
	}{
		{[]string{full, "x"}, api.ErrLong}, {[]string{"x", full}, api.ErrLong}, {[]string{full, "", "x"}, api.ErrLong}, {halves, api.ErrLong}, {[]string{full, full}, api.ErrLong}, {[]string{full[1:], "a", "b"}, api.ErrLong}, {many, api.ErrLong},
		{[]string{over}, api.ErrArg}, {[]string{over, ""}, api.ErrArg}, {[]string{"", over}, api.ErrArg}, {[]string{"a", over, "b"}, api.ErrArg}, {[]string{over, over}, api.ErrArg},
		{[]string{full, full, over}, api.ErrArg}, {[]string{full, "x", over, "x"}, api.ErrArg}, {[]string{over, full}, api.ErrArg}, {append(slices.Clone(many), over), api.ErrArg},
	} {
		s, e := Cat(c.l...)
		sameText(t, "Cat", s, e, "", c.want)
	}
}

// Rule 4: what is handed in stays as it was, and no answer shares its memory.
func TestNewMemory(t *testing.T) {
	l := []string{"ab", "", "c"}
	if Cat(l...); !slices.Equal(l, []string{"ab", "", "c"}) {
		t.Errorf("Cat changed its strings: %q", l)
	}
	s := strings.Clone(full)
	cat, _ := Cat(s)
	among, _ := Cat("", s, "")
	whole, _ := Cut(s, 0, api.MaxString)
	part, _ := Cut(s, 10, 5)
	last, _ := Cut(s, api.MaxString-1, 1)
	written, _ := Escape(s)
	read, _, _ := Read(s)
	from := uintptr(unsafe.Pointer(unsafe.StringData(s)))
	for i, a := range []string{cat, among, whole, part, last, written, read} {
		if a == "" {
			t.Errorf("answer %d is empty", i)
		} else if p := uintptr(unsafe.Pointer(unsafe.StringData(a))); p >= from && p < from+api.MaxString {
			t.Errorf("answer %d shares the argument's memory", i)
		}
	}
	if s != full {
		t.Error("the argument has changed")
	}
}

// P3.1: the 256 characters, and what is none.
func TestChr(t *testing.T) {
	for c := range 256 {
		if s, e := Chr(int64(c)); s != bytewise(byte(c)) || e != api.OK {
			t.Errorf("Chr(%d) = %q, %d", c, s, e)
		}
	}
	for _, c := range append([]int64{256, 257, 321, 512, -191, 65536, 0x10ffff, math.MinInt64 + 65, 1<<32 + 65}, far...) {
		if s, e := Chr(c); s != "" || e != api.ErrArg {
			t.Errorf("Chr(%d) = %q, %d; want ErrArg", c, s, e)
		}
	}
}

// P3.1: texts stand in the order of their bytes, a beginning of another one ahead of it; each of them against each.
func TestCmp(t *testing.T) {
	rising := []string{"", "\x00", "\x00\x00", "\x00a", "\x01", " ", "A", "AB", "B", "Z", "a", "a\x00", "aa", "aaa", "ab", "abc", "abd", "ac", "a\x7f", "a\x80", "a\xff", "b", "b\x00", "ba", "\x7f", "\x80", "\xc3\xa9", "\xe2\x82\xac", "\xef\xbf\xbd", "\xfe", "\xff", "\xff\x00", "\xff\xff"}
	long := []string{full[1:], full[1:] + "\x00", full[1:] + "x", full[1:] + "y", full[1:] + "yy"} // of any length
	for _, l := range [][]string{rising, long} {
		for i, a := range l {
			for k, b := range l {
				want := 0
				if i < k {
					want = -1
				} else if i > k {
					want = 1
				}
				if n := Cmp(strings.Clone(a), b); n != want {
					t.Errorf("Cmp(%q, %q) = %d; want %d", head(a), head(b), n, want)
				}
			}
		}
	}
	for a := range 256 {
		for b := range 256 {
			want := -1 // of the same byte: the first text is a beginning of the other
			if a > b {
				want = 1
			}
			if n := Cmp("x"+bytewise(byte(a)), "x"+bytewise(byte(b), 'y')); n != want {
				t.Errorf("Cmp of the bytes %d, %d = %d; want %d", a, b, n, want)
			}
		}
	}
}

// P3.2: each place of a string, and those that it has not.
func TestSub(t *testing.T) {
	for _, s := range []string{"", "a", "abc", "\x00", "\xff", "é", allBytes(), full} {
		for i := range len(s) {
			if c, e := Sub(s, int64(i)); c != int64(s[i]) || e != api.OK {
				t.Errorf("Sub(%q, %d) = %d, %d; want %d", head(s), i, c, e, s[i])
			}
		}
		for _, i := range append([]int64{int64(len(s)), int64(len(s)) + 1}, far...) {
			if c, e := Sub(s, i); c != 0 || e != api.ErrSize {
				t.Errorf("Sub(%q, %d) = %d, %d; want ErrSize", head(s), i, c, e)
			}
		}
	}
	for _, i := range append([]int64{0, 1, api.MaxString - 1, api.MaxString}, far...) {
		if c, e := Sub(over, i); c != 0 || e != api.ErrArg {
			t.Errorf("Sub of no string at %d = %d, %d; want ErrArg", i, c, e)
		}
	}
}

// checkCut holds Cut against a sum without bound.
func checkCut(t *testing.T, s string, i, n int64) {
	t.Helper()
	got, e := Cut(s, i, n)
	end := new(big.Int).Add(big.NewInt(i), big.NewInt(n))
	if i < 0 || n < 0 || end.Cmp(big.NewInt(int64(len(s)))) > 0 {
		if got != "" || e != api.ErrSize {
			t.Errorf("Cut(%q of %d bytes, %d, %d) = %q, %d; want ErrSize", head(s), len(s), i, n, head(got), e)
		}
		return
	}
	want := make([]byte, 0, n)
	for k := range n {
		want = append(want, s[i+k])
	}
	if got != string(want) || e != api.OK {
		t.Errorf("Cut(%q of %d bytes, %d, %d) = %q, %d; want %q", head(s), len(s), i, n, head(got), e, head(string(want)))
	}
}

// P3.2: every place with every length, those below 0 and those past the end; sums that leave the int64s.
func TestCut(t *testing.T) {
	for _, s := range []string{"", "a", "abc", "\x00\xff", "aé\xff", allBytes()[100:140]} {
		for i := int64(-2); i <= int64(len(s))+2; i++ {
			for n := int64(-2); n <= int64(len(s))+2; n++ {
				checkCut(t, s, i, n)
			}
			for _, n := range far {
				checkCut(t, s, i, n)
				checkCut(t, s, n, i)
			}
		}
		for _, i := range far {
			for _, n := range far {
				checkCut(t, s, i, n)
			}
		}
	}
	for _, i := range []int64{0, 1, 32768, api.MaxString - 1, api.MaxString} {
		for _, n := range []int64{0, 1, 32768, api.MaxString - 1, api.MaxString, api.MaxString + 1, math.MaxInt64 - api.MaxString, math.MaxInt64 - api.MaxString + 1, math.MaxInt64} {
			checkCut(t, full, i, n)
		}
	}
}

// P3.2: no string, with places that it has and with others: ErrArg is told ahead of ErrSize.
func TestCutWrong(t *testing.T) {
	for _, i := range append([]int64{0, 1, api.MaxString, api.MaxString + 1, api.MaxString + 2}, far...) {
		for _, n := range append([]int64{0, 1, api.MaxString, api.MaxString + 1, api.MaxString + 2}, far...) {
			if s, e := Cut(over, i, n); s != "" || e != api.ErrArg {
				t.Errorf("Cut of no string, %d, %d = %q, %d; want ErrArg", i, n, head(s), e)
			}
		}
	}
}
