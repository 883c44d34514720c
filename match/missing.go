package match

import (
	"slices"
	"strconv"

	"kiln/api"
)

// missing is a value that no row of a match that holds matches, if there is one.
func missing(m api.Match) (api.Datum, bool, api.Errno) {
	scene, rows := newScene(m, true)
	slices.Sort(rows)
	rows = slices.Compact(rows)
	if slices.Contains(rows, anything) {
		return api.Datum{}, false, api.OK
	}
	live := make([]rival, len(rows))
	for i, f := range rows {
		live[i] = rival{f, scene.all[f].tests}
	}
	b := builder{scene, leastOf(m.Shapes, reached(m))}
	v, large := api.Datum{}, false
	s := &seeker{scene: scene, other: b.other}
	s.found = func() {
		if large = !b.isSmall(); !large {
			v = b.build(m.Shape, scene.root)
		}
	}
	ok := s.seek(live)
	if ok && large && b.least[m.Shape].size <= mostParts { // the first that is found is not the least
		s.holds = b.isSmall
		s.seek(live)
	}
	if large {
		return api.Datum{}, false, api.ErrMany
	}
	return v, ok, api.OK
}

// builder makes a value of what is known.
type builder struct {
	*scene
	least []least
}

// other is a mark that is none of these, of the least value that may be at a spot.
func (b *builder) other(at *spot, marks []mark) mark {
	taken := map[mark]struct{}{}
	for _, m := range marks {
		taken[m] = struct{}{}
	}
	h := b.shapes[at.shape]
	best, size := mark{}, 0
	for n := 0; size == 0 || h.Kind == api.HData && n < len(h.Args); n++ {
		m, s := b.nth(h, n)
		if _, is := taken[m]; !is && (size == 0 || s < size) {
			best, size = m, s
		}
	}
	return best
}

// nth is the mark of the nth one of unlike values of a shape that is no record, and the least size of such a value.
func (b *builder) nth(h api.Shape, n int) (mark, int) {
	switch h.Kind {
	case api.HInt:
		return mark{kind: api.WInt, number: int64(n)}, 1
	case api.HStr:
		return mark{kind: api.WStr, text: strconv.Itoa(n)}, 1
	case api.HExn:
		return mark{kind: api.WExn, n: len(h.Args) + n}, 1
	}
	size := 1
	for _, a := range argShape(h, n) {
		size = sum(size, b.least[a].size)
	}
	return mark{kind: api.WCon, n: n}, size
}

// head is what is at a spot, if it is known, else what the least value of the shape has there; and the shapes of its parts.
func (b *builder) head(shape int, at *spot) (mark, []int) {
	h := b.shapes[shape]
	var m mark
	switch {
	case h.Kind == api.HRec:
		return mark{kind: api.WRec}, h.Args
	case at != nil && at.known:
		m = at.mark
	case h.Kind == api.HData:
		m = mark{kind: api.WCon, n: b.least[shape].con}
	default:
		m, _ = b.nth(h, 0)
	}
	if len(h.Args) > m.n {
		return m, argShape(h, m.n)
	}
	return m, nil
}

// inside is the spot of a part of what is at a spot; nil, if nobody knows anything there.
func inside(at *spot, m mark, place int) *spot {
	switch {
	case at == nil:
		return nil
	case m.kind == api.WRec:
		return at.kids[place]
	}
	return at.kids[m.n] // if it is not known which constructor is there, nothing is known below
}

// weigh is of how many values the least one is made that has what is known.
func (b *builder) weigh(shape int, at *spot) int {
	if at == nil {
		return b.least[shape].size
	}
	size := 1
	m, l := b.head(shape, at)
	for i, a := range l {
		size = sum(size, b.weigh(a, inside(at, m, i)))
	}
	return size
}

// isSmall tells whether that one is no larger than a value can be.
func (b *builder) isSmall() bool { return b.weigh(b.root.shape, b.root) <= mostParts }

// build makes it.
func (b *builder) build(shape int, at *spot) api.Datum {
	m, l := b.head(shape, at)
	v := m.key()
	for i, a := range l {
		v.Args = append(v.Args, b.build(a, inside(at, m, i)))
	}
	return v
}
