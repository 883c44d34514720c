package match

import "slices"

// rival is a form that a value must not match, with how many of its tests are open.
type rival struct {
	form int
	open int
}

// seeker seeks a value that matches a given form, and none of its rivals.
type seeker struct {
	*scene
	given int
	other func(at *spot, marks []mark) mark // a mark that is none of these, of a value that may be at the spot
	found func()                            // is told when what is known leads to such a value
	holds func() bool                       // whether what is known may lead to one; nil: it may for sure
}

// seek tells whether there is such a value, where some spots are known. It goes on with the rival that has the fewest open tests: one that has none is matched for sure, and one with a single one leaves no choice.
func (s *seeker) seek(live []rival) bool {
	if s.holds != nil && !s.holds() {
		return false
	}
	if len(live) == 0 {
		s.found()
		return true
	}
	r := slices.MinFunc(live, func(a, b rival) int { return a.open - b.open })
	t, _, ok := s.next((*list[task])(nil).with(task{form: r.form, given: s.given, at: s.root}))
	if !ok {
		return false
	}
	l := sidesOf(s.forms, t.at.path.slice(), live, func(r rival) int { return r.form })
	if !s.isAll(t.at, l.marks) {
		ok := s.try(t.at, s.other(t.at, l.marks), l.others)
		if ok || s.holds == nil { // the others are rivals on all sides: where they leave no value here, they leave none there
			return ok
		}
	}
	for i, m := range l.marks {
		for k := range l.asking[i] {
			l.asking[i][k].open--
		}
		if s.try(t.at, m, slices.Concat(l.asking[i], l.others)) {
			return true
		}
	}
	return false
}

// try seeks a value with a mark at a spot.
func (s *seeker) try(at *spot, m mark, live []rival) bool {
	at.known, at.mark = true, m
	ok := s.seek(live)
	at.known = false
	return ok
}
