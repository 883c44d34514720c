package values

import (
	"kiln/api"
	"kiln/fix"
	"kiln/flo"
	"kiln/str"
)

func (a Int) add(b Int) Answer  { return whole(fix.Add(int64(a), int64(b))) }
func (a Int) sub(b Int) Answer  { return whole(fix.Sub(int64(a), int64(b))) }
func (a Int) mul(b Int) Answer  { return whole(fix.Mul(int64(a), int64(b))) }
func (a Int) neg() Answer       { return whole(fix.Neg(int64(a))) }
func (a Int) abs() Answer       { return whole(fix.Abs(int64(a))) }
func (a Int) div(b Int) Answer  { return whole(fix.Div(int64(a), int64(b))) }
func (a Int) mod(b Int) Answer  { return whole(fix.Mod(int64(a), int64(b))) }
func (a Int) quot(b Int) Answer { return whole(fix.Quot(int64(a), int64(b))) }
func (a Int) rem(b Int) Answer  { return whole(fix.Rem(int64(a), int64(b))) }

func (a Int) below(b Int) Answer   { return truth(a < b) }
func (a Int) atMost(b Int) Answer  { return truth(a <= b) }
func (a Int) above(b Int) Answer   { return truth(a > b) }
func (a Int) atLeast(b Int) Answer { return truth(a >= b) }

func (a Int) real() Answer { return value(Real(flo.Int(int64(a)))) }

func (a Int) text() Answer {
	s, e := fix.Text(int64(a))
	return made(Text(s), e)
}

// ord is a character's number: of a character alone.
func (a Int) ord() Answer {
	if !a.isChar() {
		return stuck()
	}
	return value(a)
}

func (a Int) chr() Answer {
	_, e := str.Chr(int64(a))
	return made(a, e)
}

// str is a character's string: of a character alone.
func (a Int) str() Answer {
	if !a.isChar() {
		return stuck()
	}
	s, e := str.Chr(int64(a))
	return made(Text(s), e)
}

func (a Int) isChar() bool {
	_, e := str.Chr(int64(a))
	return e == api.OK
}

// whole is a whole number that layers 1 to 3 have told.
func whole(n int64, e api.Errno) Answer { return made(Int(n), e) }
