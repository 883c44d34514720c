package match

import "kiln/api"

// spot is a place in values of the match's shape.
type spot struct {
	shape int
	path  *list[int]
	kids  map[int]*spot // by field, or by constructor
	known bool          // what is there was told on the way
	mark  mark          // what that is, where somebody asks for it
}

// scene is what the rows of a match ask for, and where.
type scene struct {
	*forms
	shapes []api.Shape
	root   *spot
	opened map[[2]int]int // answers of open, of large forms
}

// newScene is the scene of a match that holds, and the form of each row.
func newScene(m api.Match, loose bool) (*scene, []int) {
	b, rows := formsOf(m, loose)
	return &scene{forms: b, shapes: m.Shapes, root: &spot{shape: m.Shape}}, rows
}

// below is the spot at a place in what a form asks for at a spot.
func (s *scene) below(at *spot, f *form, place int) *spot {
	turn := place
	if f.isTest() {
		turn = f.mark.n
	}
	kid := at.kids[turn]
	if kid == nil {
		kid = &spot{shape: s.shapes[at.shape].Args[turn], path: at.path.with(place)}
		if at.kids == nil {
			at.kids = map[int]*spot{}
		}
		at.kids[turn] = kid
	}
	return kid
}

// large is the size from which on what is known of forms is kept: written out, they may be without bound.
const large = 64

// open is how many tests of a form are open for a value that matches a given one; -1: it does not match.
func (s *scene) open(given, f int) int {
	switch {
	case f == given || f == anything:
		return 0
	case given == anything:
		return s.all[f].tests
	case s.all[f].mark != s.all[given].mark:
		return -1
	case s.all[f].size < large:
		return s.count(given, f)
	}
	pair := [2]int{given, f}
	n, ok := s.opened[pair]
	if !ok {
		n = s.count(given, f)
		if s.opened == nil {
			s.opened = map[[2]int]int{}
		}
		s.opened[pair] = n
	}
	return n
}

// count is what open answers of forms with the same mark.
func (s *scene) count(given, f int) int {
	all := 0
	for _, p := range s.all[f].parts {
		n := s.open(s.part(given, p.place), p.form)
		if n < 0 {
			return n
		}
		all = sum(all, n)
	}
	return all
}

// task is a form that is asked for at a spot, where a given one is known to match; from is the first of its parts that was not gone over.
type task struct {
	form  int
	given int
	at    *spot
	from  int
}

// step goes over what is first to be done: it tells a test of which nobody knows yet how it ends, or what is then to be done.
func (s *scene) step(todo *list[task]) (task, *list[task], bool) {
	t := todo.last
	todo = todo.ahead
	f := &s.all[t.form]
	if f.isTest() && t.given == anything && !t.at.known {
		return t, todo, true
	}
	if t.from == len(f.parts) {
		return task{}, todo, false
	}
	p := f.parts[t.from]
	t.from++
	todo = todo.with(t)
	if given := s.part(t.given, p.place); s.open(given, p.form) > 0 {
		todo = todo.with(task{p.form, given, s.below(t.at, f, p.place), 0})
	}
	return task{}, todo, false
}

// next is the first such test, from the left, if there is one, and what is to be done behind it.
func (s *scene) next(todo *list[task]) (task, *list[task], bool) {
	for todo != nil {
		t, behind, ok := s.step(todo)
		if ok {
			return t, behind, true
		}
		todo = behind
	}
	return task{}, nil, false
}

// isAll tells whether these are the marks of all values that may stand at a spot.
func (s *scene) isAll(at *spot, marks []mark) bool {
	h := s.shapes[at.shape]
	return h.Kind == api.HData && len(marks) == len(h.Args)
}

// sides are what a test makes of things that ask: the marks that they ask for, who asks for each, and who asks for none.
type sides[T any] struct {
	marks  []mark
	asking [][]T
	others []T
}

// sidesOf is what a test at a path makes of things that ask for forms.
func sidesOf[T any](b *forms, path []int, live []T, asks func(T) int) sides[T] {
	var s sides[T]
	have := map[mark]int{}
	for _, x := range live {
		f := b.at(asks(x), path)
		if f == anything {
			s.others = append(s.others, x)
			continue
		}
		m := b.all[f].mark
		i, ok := have[m]
		if !ok {
			i = len(s.marks)
			have[m] = i
			s.marks = append(s.marks, m)
			s.asking = append(s.asking, nil)
		}
		s.asking[i] = append(s.asking[i], x)
	}
	return s
}
