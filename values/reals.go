package values

import "kiln/flo"

func (x Real) add(y Real) Answer { return value(Real(flo.Add(float64(x), float64(y)))) }
func (x Real) sub(y Real) Answer { return value(Real(flo.Sub(float64(x), float64(y)))) }
func (x Real) mul(y Real) Answer { return value(Real(flo.Mul(float64(x), float64(y)))) }
func (x Real) div(y Real) Answer { return value(Real(flo.Div(float64(x), float64(y)))) }
func (x Real) neg() Answer       { return value(Real(flo.Neg(float64(x)))) }
func (x Real) abs() Answer       { return value(Real(flo.Abs(float64(x)))) }

// What Compare answers; of a NaN it is none of these.
const (
	below = -1
	same  = 0
	above = 1
)

func (x Real) compare(y Real) int { return flo.Compare(float64(x), float64(y)) }

func (x Real) below(y Real) Answer   { return truth(x.compare(y) == below) }
func (x Real) above(y Real) Answer   { return truth(x.compare(y) == above) }
func (x Real) same(y Real) Answer    { return truth(x.compare(y) == same) }
func (x Real) atMost(y Real) Answer  { c := x.compare(y); return truth(c == below || c == same) }
func (x Real) atLeast(y Real) Answer { c := x.compare(y); return truth(c == above || c == same) }

func (x Real) isNan() Answer { return truth(flo.Class(float64(x)) == 0) }

func (x Real) floor() Answer { return whole(flo.Floor(float64(x))) }
func (x Real) ceil() Answer  { return whole(flo.Ceil(float64(x))) }
func (x Real) trunc() Answer { return whole(flo.Trunc(float64(x))) }
func (x Real) round() Answer { return whole(flo.Round(float64(x))) }

func (x Real) text() Answer { return value(Text(flo.Text(float64(x)))) }
