package lower

import (
	"kiln/api"
	"kiln/lambda"
)

// lowered is units as a program of the small language.
func lowered(l []api.Unit) (api.Lambda, api.Errno) {
	p, e := written(l, nil)
	if e != api.OK {
		return api.Lambda{}, e
	}
	if free := lambda.Free(p.Nodes, p.Root); len(free) > 0 { // only where nodes stand at several places, so that a note says something of but one of these
		return written(l, free)
	}
	return p, api.OK
}

// written writes units, if there is room; to some variables nothing is bound, somewhere.
func written(l []api.Unit, unbound []int) (p api.Lambda, e api.Errno) {
	defer func() {
		switch r := recover().(type) {
		case nil:
		case full:
			p, e = api.Lambda{}, api.ErrMany
		default:
			panic(r)
		}
	}()
	w := newWriter(unbound)
	var all []around
	for _, u := range newUnits(l) {
		all = append(all, newLowerer(w, u).decs(u.Root))
	}
	root := w.walking(inside(all)(w.zero))
	for _, v := range unbound {
		root = w.let(v, w.con(absent, w.zero))(root)
	}
	for i, name := range exceptions() {
		root = w.let(api.XBind+i, w.exnName(name))(root)
	}
	return api.Lambda{Nodes: w.nodes, Root: root}, api.OK
}
