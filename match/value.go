package match

import (
	"slices"
	"strings"

	"kiln/api"
)

// mostParts is of how many values one can be made: a Datum is 64 bytes, and nothing is promised of what has more than 2^31 - 1. So going over values ends, even if they are made of themselves.
const mostParts = 1 << 25

// placed is a value with the shape that it must have.
type placed struct {
	v     *api.Datum
	shape int
}

// isOf tells whether a value is one of a shape.
func isOf(shapes []api.Shape, shape int, v *api.Datum) bool {
	parts := 1
	for work := []placed{{v, shape}}; len(work) > 0; {
		x := work[len(work)-1]
		work = work[:len(work)-1]
		l, ok := partShapes(shapes[x.shape], x.v)
		parts += len(l)
		if !ok || parts > mostParts {
			return false
		}
		for i, s := range l {
			work = append(work, placed{&x.v.Args[i], s})
		}
	}
	return true
}

// partShapes are the shapes that the parts of a value must have, so that it is one of a shape; false, if it is none, whatever they are.
func partShapes(h api.Shape, v *api.Datum) ([]int, bool) {
	var l []int
	switch h.Kind {
	case api.HInt:
		return nil, v.Kind == api.WInt
	case api.HStr:
		return nil, v.Kind == api.WStr
	case api.HRec:
		return h.Args, v.Kind == api.WRec && len(v.Args) == len(h.Args)
	case api.HData:
		if v.Kind != api.WCon || v.N < 0 || v.N >= len(h.Args) {
			return nil, false
		}
		l = argShape(h, v.N)
	case api.HExn:
		if v.Kind != api.WExn || v.N < 0 {
			return nil, false
		}
		if v.N < len(h.Args) {
			l = argShape(h, v.N)
		}
	}
	return l, len(v.Args) == len(l)
}

// isLarge tells whether a value is made of more than a value can be made of.
func isLarge(v *api.Datum) bool {
	parts := 1
	for work := []*api.Datum{v}; len(work) > 0; {
		x := work[len(work)-1]
		work = work[:len(work)-1]
		parts += len(x.Args)
		if parts > mostParts {
			return true
		}
		for i := range x.Args {
			work = append(work, &x.Args[i])
		}
	}
	return false
}

// cloned is a value in new memory.
func cloned(v api.Datum) api.Datum {
	for work := []*api.Datum{&v}; len(work) > 0; {
		x := work[len(work)-1]
		work = work[:len(work)-1]
		x.Text = strings.Clone(x.Text)
		x.Args = slices.Clone(x.Args)
		for i := range x.Args {
			work = append(work, &x.Args[i])
		}
	}
	return v
}

// part is what stands at a place of a value; nil, if nothing does.
func part(v *api.Datum, place int) *api.Datum {
	switch v.Kind {
	case api.WCon, api.WExn:
		if place > 0 { // a constructor has one argument
			return nil
		}
		fallthrough
	case api.WRec:
		if place >= 0 && place < len(v.Args) {
			return &v.Args[place]
		}
	}
	return nil
}

// follow is what stands at a path in a value; nil, if it leads nowhere.
func follow(v *api.Datum, path []int) *api.Datum {
	for _, place := range path {
		if v = part(v, place); v == nil {
			return nil
		}
	}
	return v
}
