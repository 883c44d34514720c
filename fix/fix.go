// Package fix is layer 1: whole numbers of 63 bits.
package fix

import "kiln/api"

// Right tells whether n is a number: one from MinFix to MaxFix.
func Right(n int64) bool { return n >= api.MinFix && n <= api.MaxFix }

// Add is the sum of all, from the left on; no sum on the way may be out of range, either.
func Add(l ...int64) (int64, api.Errno) {
	if !allRight(l...) {
		return 0, api.ErrArg
	}
	sum := int64(0)
	for _, n := range l {
		sum += n // two numbers' sum always fits an int64
		if !Right(sum) {
			return 0, api.ErrOverflow
		}
	}
	return sum, api.OK
}

// Sub is the difference.
func Sub(a, b int64) (int64, api.Errno) {
	if !allRight(a, b) {
		return 0, api.ErrArg
	}
	return answer(a - b)
}

// Mul is the product.
func Mul(a, b int64) (int64, api.Errno) {
	if !allRight(a, b) {
		return 0, api.ErrArg
	}
	p := a * b
	// A product that wrapped is off by 2^64 or more, hence by more than any remainder: dividing shows it.
	if a != 0 && p/a != b {
		return 0, api.ErrOverflow
	}
	return answer(p)
}

// Neg is the opposite.
func Neg(a int64) (int64, api.Errno) {
	if !Right(a) {
		return 0, api.ErrArg
	}
	return answer(-a)
}

// Abs is the amount.
func Abs(a int64) (int64, api.Errno) {
	if a < 0 {
		return Neg(a)
	}
	if !Right(a) {
		return 0, api.ErrArg
	}
	return a, api.OK
}

// Div is the quotient rounded down.
func Div(a, b int64) (int64, api.Errno) {
	if e := divisible(a, b); e != api.OK {
		return 0, e
	}
	q := a / b
	if a%b != 0 && (a < 0) != (b < 0) {
		q--
	}
	return answer(q)
}

// Mod is what Div leaves; it has the sign of b.
func Mod(a, b int64) (int64, api.Errno) {
	if e := divisible(a, b); e != api.OK {
		return 0, e
	}
	r := a % b
	if r != 0 && (r < 0) != (b < 0) {
		r += b
	}
	return r, api.OK
}

// Quot is the quotient cut towards 0.
func Quot(a, b int64) (int64, api.Errno) {
	if e := divisible(a, b); e != api.OK {
		return 0, e
	}
	return answer(a / b)
}

// Rem is what Quot leaves; it has the sign of a.
func Rem(a, b int64) (int64, api.Errno) {
	if e := divisible(a, b); e != api.OK {
		return 0, e
	}
	return a % b, api.OK
}

func allRight(l ...int64) bool {
	for _, n := range l {
		if !Right(n) {
			return false
		}
	}
	return true
}

// divisible is the error, if any, of dividing a by b.
func divisible(a, b int64) api.Errno {
	switch {
	case !allRight(a, b):
		return api.ErrArg
	case b == 0:
		return api.ErrDiv
	}
	return api.OK
}

// answer is n, if it is a number.
func answer(n int64) (int64, api.Errno) {
	if !Right(n) {
		return 0, api.ErrOverflow
	}
	return n, api.OK
}
