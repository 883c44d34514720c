package fix

import (
	"math"
	"math/big"
	"slices"
	"testing"

	"kiln/api"
)

// numbers are small ones, both edges, and those around which products and quotients leave the range.
func numbers() []int64 {
	l := []int64{}
	for _, n := range []int64{0, 1 << 30, 1 << 31, 3037000500, 1 << 32, 1 << 61, api.MaxFix / 3, api.MaxFix} {
		for d := int64(-9); d <= 9; d++ {
			l = append(l, n+d, -n+d)
		}
	}
	l = slices.DeleteFunc(l, func(n int64) bool { return n < api.MinFix || n > api.MaxFix })
	l = append(l, api.MinFix, api.MinFix+1, api.MinFix/2)
	slices.Sort(l)
	return slices.Compact(l)
}

// strangers are no numbers.
var strangers = []int64{api.MaxFix + 1, api.MinFix - 1, api.MaxFix + 2, math.MaxInt64, math.MinInt64, math.MinInt64 + 1}

// whole is n as an answer: ErrOverflow, if it is out of range.
func whole(n *big.Int) (int64, api.Errno) {
	if n.Cmp(big.NewInt(api.MinFix)) < 0 || n.Cmp(big.NewInt(api.MaxFix)) > 0 {
		return 0, api.ErrOverflow
	}
	return n.Int64(), api.OK
}

// same fails the test, if a call answered otherwise than it must.
func same(t *testing.T, call string, l []int64, got int64, gotErr api.Errno, want int64, wantErr api.Errno) {
	t.Helper()
	if got != want || gotErr != wantErr {
		t.Errorf("%s%v = %d, %d; want %d, %d", call, l, got, gotErr, want, wantErr)
	}
}

// P1.1: which int64s are numbers.
func TestRight(t *testing.T) {
	for _, n := range numbers() {
		if !Right(n) {
			t.Errorf("Right(%d) = false", n)
		}
	}
	for _, n := range strangers {
		if Right(n) {
			t.Errorf("Right(%d) = true", n)
		}
	}
}

// P1.1: sums are held against the range one by one, and no argument is overlooked.
func TestAdd(t *testing.T) {
	cases := []struct {
		l    []int64
		want int64
		e    api.Errno
	}{
		{nil, 0, 0},
		{[]int64{}, 0, 0},
		{[]int64{api.MinFix}, api.MinFix, 0},
		{[]int64{1, 2, 3, 4, -20}, -10, 0},
		{[]int64{api.MaxFix, 1}, 0, api.ErrOverflow},
		{[]int64{api.MaxFix, 1, -1}, 0, api.ErrOverflow},
		{[]int64{api.MaxFix, -1, 1}, api.MaxFix, 0},
		{[]int64{api.MinFix, -1, 1}, 0, api.ErrOverflow},
		{[]int64{api.MinFix, 1, -1}, api.MinFix, 0},
		{[]int64{api.MinFix, api.MaxFix}, -1, 0},
		{[]int64{api.MaxFix, api.MaxFix, api.MaxFix, api.MaxFix, 4}, 0, api.ErrOverflow},
		{[]int64{api.MinFix, api.MinFix, api.MinFix, api.MinFix}, 0, api.ErrOverflow},
		{[]int64{api.MaxFix + 1}, 0, api.ErrArg},
		{[]int64{api.MaxFix + 1, -1}, 0, api.ErrArg},
		{[]int64{api.MaxFix, 1, api.MinFix - 1}, 0, api.ErrArg},
		{[]int64{0, 0, math.MinInt64}, 0, api.ErrArg},
	}
	for _, c := range cases {
		kept := slices.Clone(c.l)
		n, e := Add(c.l...)
		same(t, "Add", c.l, n, e, c.want, c.e)
		if !slices.Equal(kept, c.l) {
			t.Errorf("Add changed %v to %v", kept, c.l)
		}
	}
}

// P1.1: two numbers, reckoned without bound.
func TestAddSubMul(t *testing.T) {
	calls := []struct {
		name string
		call func(a, b int64) (int64, api.Errno)
		want func(z, a, b *big.Int) *big.Int
	}{
		{"Add", func(a, b int64) (int64, api.Errno) { return Add(a, b) }, (*big.Int).Add},
		{"Sub", Sub, (*big.Int).Sub},
		{"Mul", Mul, (*big.Int).Mul},
	}
	for _, c := range calls {
		for _, a := range numbers() {
			for _, b := range numbers() {
				n, e := c.call(a, b)
				want, wantErr := whole(c.want(new(big.Int), big.NewInt(a), big.NewInt(b)))
				same(t, c.name, []int64{a, b}, n, e, want, wantErr)
			}
		}
	}
}

// P1.1: the product's edges that the document names.
func TestMulEdges(t *testing.T) {
	n, e := Mul(2147483648, 2147483648)
	same(t, "Mul", []int64{2147483648, 2147483648}, n, e, 0, api.ErrOverflow)
	n, e = Mul(-2147483648, 2147483648)
	same(t, "Mul", []int64{-2147483648, 2147483648}, n, e, api.MinFix, 0)
	// These wrap round to a number again.
	n, e = Mul(1<<32, 1<<32)
	same(t, "Mul", []int64{1 << 32, 1 << 32}, n, e, 0, api.ErrOverflow)
	n, e = Mul(api.MinFix, api.MinFix)
	same(t, "Mul", []int64{api.MinFix, api.MinFix}, n, e, 0, api.ErrOverflow)
	n, e = Mul(api.MinFix, -1)
	same(t, "Mul", []int64{api.MinFix, -1}, n, e, 0, api.ErrOverflow)
}

// P1.1: one number.
func TestNegAbs(t *testing.T) {
	for _, a := range numbers() {
		n, e := Neg(a)
		want, wantErr := whole(new(big.Int).Neg(big.NewInt(a)))
		same(t, "Neg", []int64{a}, n, e, want, wantErr)
		n, e = Abs(a)
		want, wantErr = whole(new(big.Int).Abs(big.NewInt(a)))
		same(t, "Abs", []int64{a}, n, e, want, wantErr)
	}
	n, e := Neg(api.MinFix)
	same(t, "Neg", []int64{api.MinFix}, n, e, 0, api.ErrOverflow)
	n, e = Abs(api.MinFix)
	same(t, "Abs", []int64{api.MinFix}, n, e, 0, api.ErrOverflow)
}

// floor is a / b rounded down.
func floor(a, b *big.Int) *big.Int {
	q, r := new(big.Int).QuoRem(a, b, new(big.Int))
	if r.Sign() != 0 && r.Sign() != b.Sign() {
		q.Sub(q, big.NewInt(1))
	}
	return q
}

// rest is a less b times q.
func rest(a, b, q *big.Int) *big.Int {
	return new(big.Int).Sub(a, new(big.Int).Mul(b, q))
}

// P1.2: both ways of dividing.
func TestDivide(t *testing.T) {
	for _, a := range numbers() {
		for _, b := range numbers() {
			if b == 0 {
				continue
			}
			x, y := big.NewInt(a), big.NewInt(b)
			down, cut := floor(x, y), new(big.Int).Quo(x, y)
			for _, c := range []struct {
				name string
				call func(a, b int64) (int64, api.Errno)
				want *big.Int
			}{{"Div", Div, down}, {"Mod", Mod, rest(x, y, down)}, {"Quot", Quot, cut}, {"Rem", Rem, rest(x, y, cut)}} {
				n, e := c.call(a, b)
				want, wantErr := whole(c.want)
				same(t, c.name, []int64{a, b}, n, e, want, wantErr)
			}
		}
	}
}

// P1.2: the edges that the document names, each written out.
func TestDivideEdges(t *testing.T) {
	for _, c := range []struct {
		a, b                int64
		div, mod, quot, rem int64
		quotients           api.Errno // of Div and Quot
		rests               api.Errno // of Mod and Rem
	}{
		{-7, 2, -4, 1, -3, -1, 0, 0},
		{7, -2, -4, -1, -3, 1, 0, 0},
		{7, 2, 3, 1, 3, 1, 0, 0},
		{-7, -2, 3, -1, 3, -1, 0, 0},
		{-6, 2, -3, 0, -3, 0, 0, 0},
		{0, -5, 0, 0, 0, 0, 0, 0},
		{-1, api.MaxFix, -1, api.MaxFix - 1, 0, -1, 0, 0},
		{1, api.MinFix, -1, api.MinFix + 1, 0, 1, 0, 0},
		{api.MinFix, -1, 0, 0, 0, 0, api.ErrOverflow, 0},
		{api.MaxFix, -1, -api.MaxFix, 0, -api.MaxFix, 0, 0, 0},
		{api.MinFix, 1, api.MinFix, 0, api.MinFix, 0, 0, 0},
		{1, 0, 0, 0, 0, 0, api.ErrDiv, api.ErrDiv},
		{0, 0, 0, 0, 0, 0, api.ErrDiv, api.ErrDiv},
		{api.MinFix, 0, 0, 0, 0, 0, api.ErrDiv, api.ErrDiv},
		{api.MaxFix + 1, 0, 0, 0, 0, 0, api.ErrArg, api.ErrArg},
	} {
		l := []int64{c.a, c.b}
		n, e := Div(c.a, c.b)
		same(t, "Div", l, n, e, c.div, c.quotients)
		n, e = Mod(c.a, c.b)
		same(t, "Mod", l, n, e, c.mod, c.rests)
		n, e = Quot(c.a, c.b)
		same(t, "Quot", l, n, e, c.quot, c.quotients)
		n, e = Rem(c.a, c.b)
		same(t, "Rem", l, n, e, c.rem, c.rests)
	}
}

// P1.1, P1.2: what is no number is refused, on either side, ahead of all other errors.
func TestStrangers(t *testing.T) {
	two := []struct {
		name string
		call func(a, b int64) (int64, api.Errno)
	}{{"Sub", Sub}, {"Mul", Mul}, {"Div", Div}, {"Mod", Mod}, {"Quot", Quot}, {"Rem", Rem},
		{"Add", func(a, b int64) (int64, api.Errno) { return Add(a, b) }}}
	for _, x := range strangers {
		for _, c := range two {
			for _, n := range []int64{0, 1, -1, api.MinFix, api.MaxFix, x} {
				got, e := c.call(x, n)
				same(t, c.name, []int64{x, n}, got, e, 0, api.ErrArg)
				got, e = c.call(n, x)
				same(t, c.name, []int64{n, x}, got, e, 0, api.ErrArg)
			}
		}
		got, e := Neg(x)
		same(t, "Neg", []int64{x}, got, e, 0, api.ErrArg)
		got, e = Abs(x)
		same(t, "Abs", []int64{x}, got, e, 0, api.ErrArg)
	}
}
