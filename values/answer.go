package values

import "kiln/api"

// Answer is what a primitive does: it has a value; or it raises an exception, if Code is above 0; or the run ends, if End is.
type Answer struct {
	Val  Value
	Code int
	End  api.Status
}

func value(v Value) Answer  { return Answer{Val: v} }
func raise(code int) Answer { return Answer{Code: code} }
func stuck() Answer         { return Answer{End: api.Stuck} }

func truth(is bool) Answer {
	if is {
		return value(Int(1))
	}
	return value(Int(0))
}

// made is a value, or what is raised where a call of layers 1 to 3 has none.
func made(v Value, e api.Errno) Answer {
	switch e {
	case api.OK:
		return value(v)
	case api.ErrArg: // of str.Chr; all other arguments are what they should be
		return raise(api.XChr)
	case api.ErrDiv:
		return raise(api.XDiv)
	case api.ErrDomain:
		return raise(api.XDomain)
	case api.ErrOverflow:
		return raise(api.XOverflow)
	case api.ErrLong:
		return raise(api.XSize)
	case api.ErrSize:
		return raise(api.XSubscript)
	}
	return stuck()
}

// one is a primitive that takes one value of a kind.
func one[A any](do func(A) Answer) func(*State, []Value) Answer {
	return func(_ *State, l []Value) Answer {
		if a, ok := l[0].(A); ok {
			return do(a)
		}
		return stuck()
	}
}

// two is a primitive that takes two values of their kinds.
func two[A, B any](do func(A, B) Answer) func(*State, []Value) Answer {
	return func(_ *State, l []Value) Answer {
		a, ok := l[0].(A)
		b, also := l[1].(B)
		if ok && also {
			return do(a, b)
		}
		return stuck()
	}
}

// three is a primitive that takes three values of their kinds.
func three[A, B, C any](do func(A, B, C) Answer) func(*State, []Value) Answer {
	return func(_ *State, l []Value) Answer {
		a, ok := l[0].(A)
		b, also := l[1].(B)
		c, too := l[2].(C)
		if ok && also && too {
			return do(a, b, c)
		}
		return stuck()
	}
}
