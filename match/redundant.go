package match

import "kiln/api"

// redundant are the rows of a match that holds that no value reaches.
func redundant(m api.Match) []int {
	scene, rows := newScene(m, true)
	s := &seeker{scene: scene, other: func(*spot, []mark) mark { return mark{} }, found: func() {}}
	ahead := newShelf(scene, rows)
	met := make([]bool, len(scene.all))
	var l []int
	for i, f := range rows {
		if met[anything] || met[f] || !s.isReached(f, ahead.near(f)) {
			l = append(l, i)
		} else {
			ahead.add(f) // what is not reached takes no value from those behind it
		}
		met[f] = true
	}
	return l
}

// mostOpened is how many answers are kept for the rows to come.
const mostOpened = 1 << 24

// isReached tells whether a value matches a form, and none of some others.
func (s *seeker) isReached(f int, others [][]int) bool {
	if len(s.opened) > mostOpened {
		s.opened = nil
	}
	s.given = f
	var live []rival
	for _, l := range others {
		for _, o := range l {
			switch n := s.open(f, o); {
			case n == 0:
				return false
			case n > 0:
				live = append(live, rival{o, n})
			}
		}
	}
	return s.seek(live)
}

// shelf keeps forms by what they ask for at one place, so that most of those that can't match the same value as another one are not looked at.
type shelf struct {
	*scene
	path   []int
	all    []int
	asking map[mark][]int
	others []int
}

// newShelf is an empty shelf: of a record it looks at the field that most rows ask for.
func newShelf(s *scene, rows []int) *shelf {
	l := &shelf{scene: s, asking: map[mark][]int{}}
	h := s.shapes[s.root.shape]
	if h.Kind != api.HRec {
		return l
	}
	most := 0
	counts := make([]int, len(h.Args))
	for _, f := range rows {
		for _, p := range s.all[f].parts {
			if !s.all[p.form].isTest() {
				continue
			}
			counts[p.place]++
			if counts[p.place] > most {
				most, l.path = counts[p.place], []int{p.place}
			}
		}
	}
	return l
}

func (l *shelf) add(f int) {
	l.all = append(l.all, f)
	if at := &l.scene.all[l.at(f, l.path)]; at.isTest() {
		l.asking[at.mark] = append(l.asking[at.mark], f)
	} else {
		l.others = append(l.others, f)
	}
}

// near are the forms that may match the same value as this one.
func (l *shelf) near(f int) [][]int {
	if at := &l.scene.all[l.at(f, l.path)]; at.isTest() {
		return [][]int{l.asking[at.mark], l.others}
	}
	return [][]int{l.all}
}
