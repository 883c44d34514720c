package lower

import (
	"slices"

	"kiln/api"
)

// lowered is units as a program of the small language.
func lowered(l []api.Unit) (api.Lambda, api.Errno) {
	units := newUnits(l)
	if slices.ContainsFunc(units, hasRepeats) {
		return written(units, (*writer).programApart)
	}
	return written(units, (*writer).program)
}

// written writes units, if there is room.
func written(units []*unit, write func(w *writer, units []*unit) int) (p api.Lambda, e api.Errno) {
	defer func() {
		switch r := recover().(type) {
		case nil:
		case full:
			p, e = api.Lambda{}, api.ErrMany
		default:
			panic(r)
		}
	}()
	w := newWriter(units)
	root := w.walking(write(w, units))
	for i, name := range exceptions() {
		root = w.let(api.XBind+i, w.exnName(name))(root)
	}
	return api.Lambda{Nodes: w.nodes, Root: root}, api.OK
}

// program is what units do, one behind the other.
func (w *writer) program(units []*unit) int {
	var all []around
	for _, u := range units {
		l := lowerer{w, u, factsOf(u)}
		all = append(all, l.decs(u.Root))
	}
	return inside(all)(w.zero)
}
