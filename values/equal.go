package values

import "kiln/api"

func (s *State) equal(l []Value) Answer {
	same, end := s.alike(l[0], l[1])
	if end != 0 {
		return Answer{End: end}
	}
	return truth(same)
}

func (s *State) unlike(l []Value) Answer {
	same, end := s.alike(l[0], l[1])
	if end != 0 {
		return Answer{End: end}
	}
	return truth(!same)
}

// pairs are parts of two values that are still to be held against each other.
type pairs struct{ x, y []Value }

// alike tells whether two values are equal. Each pair but the first counts a step, and the run may end there.
func (s *State) alike(x, y Value) (bool, api.Status) {
	var todo []pairs
	for {
		more, same, ok := opened(x, y)
		if !ok {
			return false, api.Stuck
		}
		if !same {
			return false, 0
		}
		if len(more.x) > 0 {
			todo = append(todo, more)
		}
		if len(todo) == 0 {
			return true, 0
		}
		next := &todo[len(todo)-1]
		if len(next.x) == 0 || len(next.y) == 0 {
			return false, api.Stuck // tuples of other lengths
		}
		if !s.Step() {
			return false, api.OutOfFuel
		}
		x, y = next.x[0], next.y[0]
		next.x, next.y = next.x[1:], next.y[1:]
		if len(next.x) == 0 && len(next.y) == 0 { // ahead of the last pair, so that long lists are not nested
			todo = todo[:len(todo)-1]
		}
	}
}

// opened is what there is in two values that are the same but for it; or they are not the same; or nobody can say, if ok is false.
func opened(v, w Value) (more pairs, same, ok bool) {
	switch x := v.(type) {
	case Int:
		switch y := w.(type) {
		case Int:
			return pairs{}, x == y, true
		case *Con:
			return pairs{}, false, true
		}
	case *Con:
		switch y := w.(type) {
		case Int:
			return pairs{}, false, true
		case *Con:
			return pairs{[]Value{x.Of}, []Value{y.Of}}, x.Tag == y.Tag, true
		}
	case Text:
		y, ok := w.(Text)
		return pairs{}, x == y, ok
	case Tuple:
		y, ok := w.(Tuple)
		return pairs{x, y}, true, ok
	case *Cell:
		y, ok := w.(*Cell)
		return pairs{}, x == y, ok
	}
	return pairs{}, false, false
}
