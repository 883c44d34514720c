// Package values is what layers 11, 12, 13 and 15 have in common about runs: values, the primitives, and the steps that are counted.
package values

// Value is an Int, a Real, a Text, a Tuple, a *Con, a *Cell, or a function, of a type of the evaluator's own.
type Value any

// Int is a whole number; and a character, a bool, the unit.
type Int int64

// Real is a real.
type Real float64

// Text is a string.
type Text string

// Tuple is values in a row, one or more.
type Tuple []Value

// Con is a constructor's value.
type Con struct {
	Tag int
	Of  Value
}

// Field is a field of a tuple, or, if n is 0, what is in a constructor's value; false, if there is none.
func Field(v Value, n int) (Value, bool) {
	switch x := v.(type) {
	case Tuple:
		if n < len(x) {
			return x[n], true
		}
	case *Con:
		if n == 0 {
			return x.Of, true
		}
	}
	return nil, false
}

// Packet is what is raised where there is but an exception's name.
func Packet(name Value) Value { return Tuple{name, Int(0)} }

// exnName is the name of the exception that was raised; false, if it was something else.
func exnName(packet Value) (string, bool) {
	fields, ok := packet.(Tuple)
	if !ok {
		return "", false
	}
	cell, ok := fields[0].(*Cell)
	if !ok {
		return "", false
	}
	content, _ := cell.get(0)
	name, ok := content.(Text)
	return string(name), ok
}
