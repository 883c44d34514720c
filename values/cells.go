package values

import "kiln/api"

func (s *State) ref(l []Value) Answer { return value(newCell(1, l[0])) }

// array is a cell of as many values as the first one says.
func (s *State) array(l []Value) Answer {
	n, ok := l[0].(Int)
	switch {
	case !ok:
		return stuck()
	case n < 0 || n > api.MaxCells:
		return raise(api.XSize)
	}
	return value(newCell(int(n), l[1]))
}

// content is a cell's first value.
func (c *Cell) content() Answer {
	if v, ok := c.get(0); ok {
		return value(v)
	}
	return stuck() // an array of none
}

// assign puts a value in the place of a cell's first one.
func (s *State) assign(l []Value) Answer {
	if c, ok := l[0].(*Cell); ok && c.set(0, l[1]) {
		return value(Int(0))
	}
	return stuck()
}

func (c *Cell) length() Answer { return value(Int(c.size)) }

func (c *Cell) at(i Int) Answer {
	if v, ok := c.get(int(i)); ok {
		return value(v)
	}
	return raise(api.XSubscript)
}

// put sets a value of a cell.
func (s *State) put(l []Value) Answer {
	c, ok := l[0].(*Cell)
	i, also := l[1].(Int)
	switch {
	case !ok || !also:
		return stuck()
	case !c.set(int(i), l[2]):
		return raise(api.XSubscript)
	}
	return value(Int(0))
}

func (s *State) print(l []Value) Answer {
	text, ok := l[0].(Text)
	if !ok {
		return stuck()
	}
	s.say(string(text))
	return value(Int(0))
}

// read is the next line of input with its end, or as much of it as a string may have.
func (s *State) read(l []Value) Answer {
	if _, ok := l[0].(Int); !ok {
		return stuck()
	}
	if len(s.input) == 0 {
		return value(Text(""))
	}
	line := s.input[0]
	s.input = s.input[1:]
	if len(line) >= api.MaxString {
		return value(Text(line[:api.MaxString]))
	}
	return value(Text(line + "\n"))
}
