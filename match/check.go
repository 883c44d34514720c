package match

import (
	"slices"

	"kiln/api"
)

// none is what a constructor without argument has in the place of its argument's shape.
const none = -1

// shapesHold tells whether the shapes are well made, and those that matter have values.
func shapesHold(m api.Match) bool {
	if m.Shape < 0 || m.Shape >= len(m.Shapes) {
		return false
	}
	for _, h := range m.Shapes {
		if !isMade(h, len(m.Shapes)) {
			return false
		}
	}
	l := reached(m)
	least := leastOf(m.Shapes, l)
	return !slices.ContainsFunc(l, func(s int) bool { return least[s].size == 0 })
}

// isMade tells whether a shape is well made, as one of a list of so many.
func isMade(h api.Shape, shapes int) bool {
	lowest := 0
	switch h.Kind {
	case api.HInt, api.HStr:
		return len(h.Args) == 0
	case api.HData:
		if len(h.Args) == 0 {
			return false
		}
		fallthrough
	case api.HExn:
		lowest = none
		fallthrough
	case api.HRec:
		return !slices.ContainsFunc(h.Args, func(a int) bool { return a < lowest || a >= shapes })
	}
	return false
}

// reached are the shapes that are reached from the match's own, itself among them.
func reached(m api.Match) []int {
	met := make([]bool, len(m.Shapes))
	met[m.Shape] = true
	l := []int{m.Shape}
	for i := 0; i < len(l); i++ {
		for _, a := range m.Shapes[l[i]].Args {
			if a != none && !met[a] {
				met[a] = true
				l = append(l, a)
			}
		}
	}
	return l
}

// patterns are patterns that are held against shapes.
type patterns struct {
	pats   []api.Pat
	shapes []api.Shape
	wanted [][]int // the shapes for which each pattern must be one
	keep   bool    // these are told: rising, each once
}

// rowsHold tells whether all rows are patterns for the shape.
func rowsHold(m api.Match) bool {
	w := patterns{pats: m.Pats, shapes: m.Shapes}
	return argsAreLower(m) && w.hold(m.Rows, m.Shape)
}

// argsAreLower tells whether all rows are there, and the Args of each pattern of which one is made are lower. It is asked apart from the shapes, since it holds of Args, too, of which the pattern's kind makes no use.
func argsAreLower(m api.Match) bool {
	met := make([]bool, len(m.Pats))
	if !meet(met, m.Rows) {
		return false
	}
	for p, x := range slices.Backward(m.Pats) {
		if met[p] && !meet(met[:p], x.Args) {
			return false
		}
	}
	return true
}

// meet notes which patterns are met; false, if one of them is not among those that there are.
func meet(met []bool, pats []int) bool {
	for _, p := range pats {
		if p < 0 || p >= len(met) {
			return false
		}
		met[p] = true
	}
	return true
}

// hold tells whether all rows are patterns for a shape, if their Args are lower. Each pattern is asked once for each shape, however often it stands in others: those in which it stands come ahead of it, since they have higher numbers.
func (w *patterns) hold(rows []int, shape int) bool {
	w.wanted = make([][]int, len(w.pats))
	for _, p := range rows {
		w.want(p, shape)
	}
	for p, l := range slices.Backward(w.wanted) {
		slices.Sort(l)
		l = slices.Compact(l)
		if slices.ContainsFunc(l, func(s int) bool { return !w.isFor(w.pats[p], s) }) {
			return false
		}
		w.wanted[p] = nil
		if w.keep {
			w.wanted[p] = l
		}
	}
	return true
}

// want asks that a pattern is one for a shape.
func (w *patterns) want(p, shape int) {
	l := w.wanted[p]
	if len(l) == 0 || l[len(l)-1] != shape {
		w.wanted[p] = append(l, shape)
	}
}

// isFor tells whether a pattern is one for a shape, if its parts are what is then wanted of them.
func (w *patterns) isFor(x api.Pat, shape int) bool {
	h := w.shapes[shape]
	switch x.Kind {
	case api.QAny:
		return true
	case api.QBind:
		return len(x.Args) == 0 || w.wantAll(x.Args, []int{shape})
	case api.QInt:
		return h.Kind == api.HInt && len(x.Args) == 0
	case api.QStr:
		return h.Kind == api.HStr && len(x.Args) == 0
	case api.QRec:
		return h.Kind == api.HRec && w.wantAll(x.Args, h.Args)
	case api.QCon:
		return h.Kind == api.HData && w.wantArg(x, h)
	case api.QExn:
		return h.Kind == api.HExn && w.wantArg(x, h)
	}
	return false
}

// wantAll asks that patterns are ones for as many shapes, each for its own.
func (w *patterns) wantAll(pats, shapes []int) bool {
	if len(pats) != len(shapes) {
		return false
	}
	for i, p := range pats {
		w.want(p, shapes[i])
	}
	return true
}

// wantArg asks that a constructor is one of the shape, with an argument, if it has one there.
func (w *patterns) wantArg(x api.Pat, h api.Shape) bool {
	return x.N >= 0 && x.N < len(h.Args) && w.wantAll(x.Args, argShape(h, x.N))
}

// argShape is the shape of a constructor's argument; none, if it has no argument.
func argShape(h api.Shape, con int) []int {
	if h.Args[con] == none {
		return nil
	}
	return h.Args[con : con+1]
}
