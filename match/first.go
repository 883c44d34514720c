package match

import "kiln/api"

// reader reads patterns of rows that hold.
type reader struct {
	pats  []api.Pat
	bare  []int  // each pattern without the variables around it
	names []bool // which patterns have variables
}

// newReader goes over all patterns, those of no row, too, which may be anything.
func newReader(pats []api.Pat) *reader {
	r := &reader{pats, make([]int, len(pats)), make([]bool, len(pats))}
	for p, x := range pats {
		r.bare[p] = p
		r.names[p] = x.Kind == api.QBind
		for _, a := range x.Args {
			if a < 0 || a >= p || x.Kind == api.QAny {
				continue
			}
			r.names[p] = r.names[p] || r.names[a]
			if x.Kind == api.QBind {
				r.bare[p] = r.bare[a]
			}
		}
	}
	return r
}

// matches tells whether a value that is one of the pattern's shape matches it.
func (r *reader) matches(p int, v *api.Datum) bool {
	x := &r.pats[r.bare[p]]
	switch x.Kind {
	case api.QInt:
		return x.Int == v.Int
	case api.QStr:
		return x.Text == v.Text
	case api.QCon, api.QExn:
		if x.N != v.N {
			return false
		}
		fallthrough
	case api.QRec:
		for i, a := range x.Args {
			if !r.matches(a, &v.Args[i]) {
				return false
			}
		}
	}
	return true
}

// finder finds the variables of patterns, each with where it stands: a value, or a path.
type finder[T any] struct {
	*reader
	down  func(at T, place int) T
	found func(n int, at T)
}

// find goes over the variables of a pattern, from the left, each ahead of those in it.
func (f *finder[T]) find(p int, at T) {
	if !f.names[p] { // what has none may be far too long, written out, to be gone over
		return
	}
	x := &f.pats[p]
	if x.Kind == api.QBind {
		f.found(x.N, at)
	}
	for i, a := range x.Args {
		switch {
		case !f.names[a]:
		case x.Kind == api.QBind:
			f.find(a, at)
		default:
			f.find(a, f.down(at, i))
		}
	}
}

// binds are a pattern's variables, with what they stand for in a value that matches it.
func (r *reader) binds(p int, v *api.Datum) []api.Bind {
	var l []api.Bind
	f := finder[*api.Datum]{
		reader: r,
		down:   part,
		found:  func(n int, at *api.Datum) { l = append(l, api.Bind{Var: n, Val: cloned(*at)}) },
	}
	f.find(p, v)
	return l
}
