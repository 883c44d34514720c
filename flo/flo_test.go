package flo

import (
	"math"
	"math/big"
	"math/rand"
	"testing"

	"kiln/api"
)

var (
	inf     = math.Inf(1)
	nan     = math.NaN()
	minus0  = math.Copysign(0, -1)
	least   = math.Float64frombits(1)         // 2^-1074
	highest = math.Float64frombits(1<<52 - 1) // the greatest below 2^-1022
	lowest  = math.Float64frombits(1 << 52)   // 2^-1022
)

// nans are bits of NaNs: quiet and signalling ones, of both signs, and the edges of what they can be.
var nans = []uint64{
	0x7FF8000000000000, 0xFFF8000000000000, 0x7FF0000000000001, 0xFFF0000000000001, 0x7FF7FFFFFFFFFFFF, 0xFFF7FFFFFFFFFFFF,
	0x7FF8000000000001, 0xFFF8000000000001, 0x7FFFFFFFFFFFFFFF, 0xFFFFFFFFFFFFFFFF, 0x7FF4000000000000, 0x7FF00000DEADBEEF,
}

// finite are reals of both signs: zeros, small ones, edges, neighbours of powers of 2, halves, and some of any kind.
func finite() []float64 {
	l := []float64{0}
	for _, x := range []float64{
		least, 2 * least, 3 * least, 5 * least, lowest / 2, lowest, 2 * lowest, 0x1p-537, 0x1p-538, 0x1p-54, 0x1p-53, 0x1p-52, 0.1, 0.2, 0.3, 0.25, 0.5, 0.75, 1, 1.5, 2, 2.5, 3, 3.5, 10, 100, 12345.678,
		0x1p51, 0x1p51 + 0.5, 0x1p52, 0x1p52 + 1, 0x1p53, 0x1p53 + 2, 0x1p61, 0x1p62, 0x1p63, 0x1p64, 1e15, 1e16, 1e22, 1e23, 0x1p511, 0x1p512, 0x1p970, 0x1p971, 1e308, 0x1p1023, math.MaxFloat64,
	} {
		for _, y := range []float64{math.Nextafter(x, 0), x, math.Nextafter(x, inf)} {
			if !math.IsInf(y, 0) {
				l = append(l, y)
			}
		}
	}
	r := rand.New(rand.NewSource(2))
	for len(l) < 200 {
		if x := math.Abs(math.Float64frombits(r.Uint64())); x <= math.MaxFloat64 {
			l = append(l, x)
		}
	}
	for _, x := range l {
		l = append(l, -x)
	}
	l = append(l, minus0)
	return l
}

// all are the finite ones, infinities and NaNs.
func all() []float64 {
	l := append(finite(), inf, -inf)
	for _, u := range nans {
		l = append(l, math.Float64frombits(u))
	}
	return l
}

// alike tells whether both are the same real, zeros told apart by their signs, NaNs not told apart.
func alike(x, y float64) bool {
	return x != x && y != y || math.Float64bits(x) == math.Float64bits(y)
}

// rat is x exactly.
func rat(x float64) *big.Rat { return new(big.Rat).SetFloat64(x) }

// nearest is the nearest real of an exact number that isn't 0, by the words of the document.
func nearest(r *big.Rat) float64 {
	amount := new(big.Rat).Abs(r)
	// a guess, which the steps behind it set right, if it is off: low is the real at the amount or below, high the next one
	guess, _ := amount.Float64()
	low := min(math.Float64bits(guess), math.Float64bits(math.MaxFloat64))
	for low > 0 && rat(math.Float64frombits(low)).Cmp(amount) > 0 {
		low--
	}
	for low < math.Float64bits(math.MaxFloat64) && rat(math.Float64frombits(low+1)).Cmp(amount) <= 0 {
		low++
	}
	high := low + 1
	above := new(big.Rat).SetInt(new(big.Int).Lsh(big.NewInt(1), 1024)) // where infinity stands, if it were the next real
	if high != 0x7FF0000000000000 {
		above = rat(math.Float64frombits(high))
	}
	down := new(big.Rat).Sub(amount, rat(math.Float64frombits(low)))
	up := new(big.Rat).Sub(above, amount)
	u := low
	if c := down.Cmp(up); c > 0 || c == 0 && low&1 == 1 {
		u = high
	}
	x := math.Float64frombits(u)
	if r.Sign() < 0 {
		x = -x
	}
	return x
}

// P2.1: bits as they are laid, all NaNs alike.
func TestBits(t *testing.T) {
	for want, x := range map[uint64]float64{
		0: 0, 1 << 63: minus0, 1: least, 1<<63 | 1: -least, 1<<52 - 1: highest, 1 << 52: lowest, 0x3FF0000000000000: 1, 0xBFF0000000000000: -1,
		0x3FB999999999999A: 0.1, 0x7FEFFFFFFFFFFFFF: math.MaxFloat64, 0x7FF0000000000000: inf, 0xFFF0000000000000: -inf, 0x7FF8000000000000: nan,
	} {
		if u := Bits(x); u != want {
			t.Errorf("Bits(%v) = %x; want %x", x, u, want)
		}
		if y := From(want); !alike(x, y) {
			t.Errorf("From(%x) = %v; want %v", want, y, x)
		}
	}
	for _, u := range nans {
		if x := From(u); x == x {
			t.Errorf("From(%x) = %v; want a NaN", u, x)
		}
		if v := Bits(math.Float64frombits(u)); v != 0x7FF8000000000000 {
			t.Errorf("Bits of the NaN %x = %x", u, v)
		}
	}
}

// P2.1: the classes, and both edges of the small ones.
func TestClass(t *testing.T) {
	for want, l := range [][]float64{
		{nan}, {inf}, {0}, {least, 2 * least, highest, 0x1p-1023}, {lowest, math.Nextafter(lowest, 1), 0x1p-1021, 0.5, 1, 1e300, math.MaxFloat64},
	} {
		for _, x := range l {
			for _, y := range []float64{x, -x} {
				if c := Class(y); c != want {
					t.Errorf("Class(%v) = %d; want %d", y, c, want)
				}
			}
		}
	}
	for _, u := range nans {
		if c := Class(math.Float64frombits(u)); c != 0 {
			t.Errorf("Class of the NaN %x = %d", u, c)
		}
	}
}

// exact is the exact result of an operation of finite reals, the divisor not 0.
func exact(op byte, x, y float64) *big.Rat {
	a, b := rat(x), rat(y)
	switch op {
	case '+':
		return a.Add(a, b)
	case '-':
		return a.Sub(a, b)
	case '*':
		return a.Mul(a, b)
	}
	return a.Quo(a, b)
}

// wanted is what an operation must answer, by the words of P2.2.
func wanted(op byte, x, y float64) float64 {
	below := math.Signbit(x) != math.Signbit(y)
	signed := func(z float64) float64 {
		if below {
			return -z
		}
		return z
	}
	switch {
	case x != x || y != y:
		return nan
	case math.IsInf(x, 0) || math.IsInf(y, 0) || op == '/' && y == 0:
		return wantedAtEdges(op, x, y, signed)
	}
	if r := exact(op, x, y); r.Sign() != 0 {
		return nearest(r)
	}
	switch op {
	case '+':
		if math.Signbit(x) && math.Signbit(y) && x == 0 && y == 0 {
			return minus0
		}
		return 0
	case '-':
		if x == 0 && math.Signbit(x) && y == 0 && !math.Signbit(y) {
			return minus0
		}
		return 0
	}
	return signed(0)
}

// wantedAtEdges is wanted with an infinity, or a divisor 0, and no NaN.
func wantedAtEdges(op byte, x, y float64, signed func(float64) float64) float64 {
	xInf, yInf := math.IsInf(x, 0), math.IsInf(y, 0)
	switch op {
	case '-':
		return wantedAtEdges('+', x, -y, nil)
	case '+':
		switch {
		case xInf && yInf && x != y:
			return nan
		case xInf:
			return x
		}
		return y
	case '*':
		if x == 0 || y == 0 {
			return nan
		}
		return signed(inf)
	}
	switch {
	case xInf && yInf || x == 0 && y == 0:
		return nan
	case yInf:
		return signed(0)
	}
	return signed(inf)
}

// operations are the four of P2.2 by their signs.
func operations() map[byte]func(x, y float64) float64 {
	return map[byte]func(x, y float64) float64{'+': Add, '-': Sub, '*': Mul, '/': Div}
}

// P2.2: what the document names, written out.
func TestOperationsNamed(t *testing.T) {
	for _, c := range []struct {
		op   byte
		x, y float64
		want float64
	}{
		{'+', 0.1, 0.2, 0.30000000000000004}, {'/', 1, minus0, -inf}, {'/', -1, minus0, inf}, {'/', 1, 0, inf}, {'/', -1, 0, -inf},
		{'-', 0, 0, 0}, {'-', minus0, minus0, 0}, {'-', minus0, 0, minus0}, {'-', 0, minus0, 0}, {'-', 1, 1, 0}, {'-', -1, -1, 0},
		{'+', minus0, minus0, minus0}, {'+', 0, minus0, 0}, {'+', minus0, 0, 0}, {'+', 1, -1, 0}, {'+', -1, 1, 0},
		{'*', least, 0.5, 0}, {'*', least, -0.5, minus0}, {'*', 3 * least, 0.5, 2 * least}, {'*', least, 0.75, least}, {'*', -1, 0, minus0}, {'*', minus0, minus0, 0}, {'*', minus0, 5, minus0},
		{'/', 0, -3, minus0}, {'/', minus0, -3, 0}, {'/', least, 2, 0}, {'/', -least, 2, minus0}, {'/', 3 * least, 2, 2 * least}, {'/', 1, 3, 1.0 / 3},
		{'+', math.MaxFloat64, 0x1p969, math.MaxFloat64}, {'+', math.MaxFloat64, 0x1p970, inf}, {'+', math.MaxFloat64, math.Nextafter(0x1p970, 0), math.MaxFloat64}, {'-', -math.MaxFloat64, 0x1p970, -inf},
		{'*', 1e200, 1e200, inf}, {'*', -1e200, 1e200, -inf}, {'/', 1e200, 1e-200, inf}, {'*', 0x1p1023, 2, inf},
		{'+', 0x1p53, 1, 0x1p53}, {'+', 0x1p53 + 2, 1, 0x1p53 + 4}, {'-', 0x1p54, 1, 0x1p54}, {'+', 1, 0x1p-53, 1}, {'+', 1 + 0x1p-52, 0x1p-53, 1 + 0x1p-51},
		{'-', inf, inf, nan}, {'+', inf, -inf, nan}, {'+', inf, inf, inf}, {'-', inf, -inf, inf}, {'+', 1, -inf, -inf}, {'-', 1, -inf, inf}, {'*', 0, inf, nan}, {'*', -inf, minus0, nan}, {'*', -inf, 2, -inf},
		{'/', 0, 0, nan}, {'/', minus0, 0, nan}, {'/', inf, -inf, nan}, {'/', 1, inf, 0}, {'/', 1, -inf, minus0}, {'/', inf, 0, inf}, {'/', inf, minus0, -inf}, {'/', -inf, 2, -inf}, {'/', 0, inf, 0},
		{'+', nan, 1, nan}, {'-', 1, nan, nan}, {'*', nan, 0, nan}, {'/', nan, 0, nan}, {'+', nan, inf, nan}, {'/', inf, nan, nan},
	} {
		if got := operations()[c.op](c.x, c.y); !alike(got, c.want) {
			t.Errorf("%v %c %v = %v; want %v", c.x, c.op, c.y, got, c.want)
		}
	}
}

// P2.2: every pair of the edges against exact numbers, rounded by the document's words.
func TestOperations(t *testing.T) {
	l := all()
	r := rand.New(rand.NewSource(3))
	ops := operations()
	for _, x := range l {
		for _, y := range l {
			if Class(x) > 1 && Class(y) > 1 && r.Intn(8) != 0 {
				continue // exact numbers take their time
			}
			for _, op := range []byte("+-*/") {
				if got, want := ops[op](x, y), wanted(op, x, y); !alike(got, want) {
					t.Errorf("%v %c %v = %v; want %v", x, op, y, got, want)
				}
			}
		}
	}
}

// P2.2: results near the small ones, near the greatest, and sums with ties.
func TestOperationsRounded(t *testing.T) {
	r := rand.New(rand.NewSource(4))
	ops := operations()
	for range 4000 {
		x := math.Ldexp(1+r.Float64(), -r.Intn(1074))
		for op, y := range map[byte]float64{
			'*': math.Ldexp(1+float64(r.Intn(16))/16, -1022-math.Ilogb(x)-r.Intn(54)),
			'/': math.Ldexp(1+float64(r.Intn(16))/16, min(1023, 1022+math.Ilogb(x)+r.Intn(54))),
			'+': math.Ldexp(float64(r.Intn(9)-4), math.Ilogb(x)-54),
			'-': math.Ldexp(float64(r.Intn(9)-4), math.Ilogb(x)-54),
		} {
			if y == 0 || math.IsInf(y, 0) {
				continue
			}
			if got, want := ops[op](x, y), wanted(op, x, y); !alike(got, want) {
				t.Errorf("%v %c %v = %v; want %v", x, op, y, got, want)
			}
		}
	}
}

// P2.2: a product that is handed on is rounded ahead of it.
func TestNothingFused(t *testing.T) {
	x := From(Bits(1 + 0x1p-30))
	if got := Sub(Mul(x, x), 1+0x1p-29); got != 0 {
		t.Errorf("x * x - (1 + 2^-29) = %v; want 0", got)
	}
	if got := Add(Mul(x, x), -(1 + 0x1p-29)); got != 0 {
		t.Errorf("x * x + -(1 + 2^-29) = %v; want 0", got)
	}
}

// P2.2: signs turned and left away; a NaN stays.
func TestSigns(t *testing.T) {
	for _, x := range append(finite(), inf, -inf) {
		u := math.Float64bits(x)
		if got := math.Float64bits(Neg(x)); got != u^1<<63 {
			t.Errorf("Neg(%v) has the bits %x", x, got)
		}
		if got := math.Float64bits(Abs(x)); got != u&^(1<<63) {
			t.Errorf("Abs(%v) has the bits %x", x, got)
		}
	}
	for _, u := range nans {
		x := math.Float64frombits(u)
		if got := Neg(x); math.Float64bits(got) != math.Float64bits(x) {
			t.Errorf("Neg of the NaN %x = %x", u, math.Float64bits(got))
		}
		if got := Abs(x); got == got {
			t.Errorf("Abs of the NaN %x = %v", u, got)
		}
	}
}

// P2.3, P2.9: the order is that of exact numbers.
func TestCompare(t *testing.T) {
	l := finite()
	for i, x := range l {
		a := rat(x)
		for _, y := range l[:i+1] {
			want := a.Cmp(rat(y))
			if got := Compare(x, y); got != want {
				t.Errorf("Compare(%v, %v) = %d; want %d", x, y, got, want)
			}
			if got := Compare(y, x); got != -want {
				t.Errorf("Compare(%v, %v) = %d; want %d", y, x, got, -want)
			}
		}
		if Compare(x, inf) != -1 || Compare(inf, x) != 1 || Compare(x, -inf) != 1 || Compare(-inf, x) != -1 {
			t.Errorf("%v isn't between the infinities", x)
		}
	}
	if Compare(0, minus0) != 0 || Compare(minus0, 0) != 0 || Compare(inf, inf) != 0 || Compare(-inf, -inf) != 0 || Compare(-inf, inf) != -1 || Compare(inf, -inf) != 1 {
		t.Error("zeros or infinities")
	}
	for _, u := range nans {
		n := math.Float64frombits(u)
		for _, x := range all() {
			if Compare(n, x) != 2 || Compare(x, n) != 2 {
				t.Errorf("Compare of the NaN %x and %v isn't 2", u, x)
			}
		}
	}
}

// roundings are the four ways to ints by their names.
func roundings() map[string]func(float64) (int64, api.Errno) {
	return map[string]func(float64) (int64, api.Errno){"Floor": Floor, "Ceil": Ceil, "Trunc": Trunc, "Round": Round}
}

// P2.4: what the document names, and both ends of the ints.
func TestWholeNamed(t *testing.T) {
	for _, c := range []struct {
		x                         float64
		floor, ceil, trunc, round int64
	}{
		{0, 0, 0, 0, 0}, {minus0, 0, 0, 0, 0}, {0.5, 0, 1, 0, 0}, {-0.5, -1, 0, 0, 0}, {1.5, 1, 2, 1, 2}, {-1.5, -2, -1, -1, -2}, {2.5, 2, 3, 2, 2}, {-2.5, -3, -2, -2, -2}, {3.5, 3, 4, 3, 4},
		{math.Nextafter(0.5, 0), 0, 1, 0, 0}, {math.Nextafter(0.5, 1), 0, 1, 0, 1}, {math.Nextafter(-0.5, -1), -1, 0, 0, -1}, {math.Nextafter(2.5, 3), 2, 3, 2, 3}, {least, 0, 1, 0, 0}, {-least, -1, 0, 0, 0}, {highest, 0, 1, 0, 0},
		{math.Nextafter(1, 0), 0, 1, 0, 1}, {0x1p52 - 0.5, 1<<52 - 1, 1 << 52, 1<<52 - 1, 1 << 52}, {0x1p52 - 1.5, 1<<52 - 2, 1<<52 - 1, 1<<52 - 2, 1<<52 - 2}, {0x1p52 + 1, 1<<52 + 1, 1<<52 + 1, 1<<52 + 1, 1<<52 + 1},
		{0x1p62 - 512, 1<<62 - 512, 1<<62 - 512, 1<<62 - 512, 1<<62 - 512}, {-0x1p62, -1 << 62, -1 << 62, -1 << 62, -1 << 62}, {-0x1p62 + 512, -1<<62 + 512, -1<<62 + 512, -1<<62 + 512, -1<<62 + 512},
	} {
		for name, want := range map[string]int64{"Floor": c.floor, "Ceil": c.ceil, "Trunc": c.trunc, "Round": c.round} {
			if n, e := roundings()[name](c.x); n != want || e != api.OK {
				t.Errorf("%s(%v) = %d, %d; want %d", name, c.x, n, e, want)
			}
		}
	}
	for name, f := range roundings() {
		for _, x := range []float64{0x1p62, math.Nextafter(-0x1p62, -inf), 0x1p63, -0x1p63, 0x1p64, -0x1p64, 1e300, -math.MaxFloat64, inf, -inf} {
			if n, e := f(x); n != 0 || e != api.ErrOverflow {
				t.Errorf("%s(%v) = %d, %d; want ErrOverflow", name, x, n, e)
			}
		}
		for _, u := range nans {
			if n, e := f(math.Float64frombits(u)); n != 0 || e != api.ErrDomain {
				t.Errorf("%s of the NaN %x = %d, %d; want ErrDomain", name, u, n, e)
			}
		}
	}
}

// wantedWhole is what each way to the ints must answer of a finite real.
func wantedWhole(name string, x float64) (int64, api.Errno) {
	r := rat(x)
	floor := new(big.Int).Div(r.Num(), r.Denom()) // the denominator is above 0, so this rounds down
	rest := new(big.Rat).Sub(r, new(big.Rat).SetInt(floor))
	up := false
	switch half := rest.Cmp(big.NewRat(1, 2)); name {
	case "Ceil":
		up = rest.Sign() > 0
	case "Trunc":
		up = rest.Sign() > 0 && r.Sign() < 0
	case "Round":
		up = half > 0 || half == 0 && floor.Bit(0) == 1
	}
	if up {
		floor.Add(floor, big.NewInt(1))
	}
	if floor.Cmp(big.NewInt(api.MinFix)) < 0 || floor.Cmp(big.NewInt(api.MaxFix)) > 0 {
		return 0, api.ErrOverflow
	}
	return floor.Int64(), api.OK
}

// P2.4, P2.10: edges and many reals with fractions against exact numbers.
func TestWhole(t *testing.T) {
	l := finite()
	r := rand.New(rand.NewSource(5))
	for range 2000 {
		l = append(l, math.Ldexp(float64(r.Int63()-1<<62), -r.Intn(64)), math.Ldexp(float64(r.Intn(4001)-2000), -r.Intn(3)))
	}
	for _, x := range l {
		for name, f := range roundings() {
			want, wantErr := wantedWhole(name, x)
			if n, e := f(x); n != want || e != wantErr {
				t.Errorf("%s(%v) = %d, %d; want %d, %d", name, x, n, e, want, wantErr)
			}
		}
	}
}

// P2.10: where each lies.
func TestNeighbours(t *testing.T) {
	r := rand.New(rand.NewSource(6))
	for range 5000 {
		x := math.Ldexp(float64(r.Int63()-1<<62), -r.Intn(70))
		floor, e1 := Floor(x)
		ceil, e2 := Ceil(x)
		trunc, e3 := Trunc(x)
		round, e4 := Round(x)
		if e1 != 0 || e2 != 0 || e3 != 0 || e4 != 0 {
			t.Fatalf("%v: %d, %d, %d, %d", x, e1, e2, e3, e4)
		}
		a := rat(x)
		f, c := new(big.Rat).SetInt64(floor), new(big.Rat).SetInt64(ceil)
		if f.Cmp(a) > 0 || a.Cmp(new(big.Rat).SetInt64(floor+1)) >= 0 || c.Cmp(a) < 0 || a.Cmp(new(big.Rat).SetInt64(ceil-1)) <= 0 {
			t.Errorf("%v isn't at %d and %d", x, floor, ceil)
		}
		if x < 0 && trunc != ceil || x >= 0 && trunc != floor || round != floor && round != ceil {
			t.Errorf("%v: Trunc %d, Round %d", x, trunc, round)
		}
	}
}

// P2.5: any int64, ties to even.
func TestInt(t *testing.T) {
	for n, want := range map[int64]float64{
		0: 0, 1: 1, -1: -1, 1 << 53: 0x1p53, 1<<53 + 1: 0x1p53, 1<<53 + 3: 0x1p53 + 4, -1<<53 - 1: -0x1p53, -1<<53 - 3: -0x1p53 - 4,
		api.MaxFix: 0x1p62, api.MinFix: -0x1p62, math.MaxInt64: 0x1p63, math.MinInt64: -0x1p63, math.MaxInt64 - 511: 0x1p63, math.MaxInt64 - 512: 0x1p63 - 1024, 1<<62 - 257: 0x1p62 - 512,
	} {
		if got := Int(n); !alike(got, want) {
			t.Errorf("Int(%d) = %v; want %v", n, got, want)
		}
	}
	r := rand.New(rand.NewSource(7))
	for range 2000 {
		n := int64(r.Uint64()) >> r.Intn(63)
		n &^= 1<<r.Intn(12) - 1 // so that there are ties among them
		if n == 0 {
			continue
		}
		if got, want := Int(n), nearest(new(big.Rat).SetInt64(n)); !alike(got, want) {
			t.Errorf("Int(%d) = %v; want %v", n, got, want)
		}
	}
}

// P2.9: more gives no less; P2.11: the order of arguments, and what is taken away the other way round.
func TestLaws(t *testing.T) {
	l := finite()
	r := rand.New(rand.NewSource(8))
	for _, x := range l {
		for _, y := range l {
			if !alike(Add(x, y), Add(y, x)) || !alike(Mul(x, y), Mul(y, x)) {
				t.Errorf("%v and %v: the order is seen", x, y)
			}
			if d := Sub(x, y); Compare(x, y) != 0 && !alike(d, Neg(Sub(y, x))) {
				t.Errorf("%v - %v = %v, the other way round %v", x, y, d, Sub(y, x))
			}
			z := l[r.Intn(len(l))]
			low, high := min(x, y), max(x, y)
			if Compare(Add(high, z), Add(low, z)) == -1 {
				t.Errorf("%v + %v is below %v + %v", high, z, low, z)
			}
			if Compare(Mul(high, Abs(z)), Mul(low, Abs(z))) == -1 {
				t.Errorf("%v * %v is below %v * %v", high, Abs(z), low, Abs(z))
			}
			if Compare(x, y) <= 0 && Compare(y, z) <= 0 && Compare(x, z) == 1 {
				t.Errorf("%v, %v, %v: no order", x, y, z)
			}
		}
	}
	for _, x := range all() {
		if y := From(Bits(x)); !alike(x, y) {
			t.Errorf("From(Bits(%v)) = %v", x, y)
		}
		n, e := Trunc(x)
		if e != api.OK || x != math.Trunc(x) {
			continue
		}
		if y := Int(n); Compare(x, y) != 0 {
			t.Errorf("Int(Trunc(%v)) = %v", x, y)
		}
	}
}
