package match

import (
	"slices"

	"kiln/api"
)

// none is what a constructor without argument has in the place of its argument's shape.
const none = -1

// shapesHold tells whether the shapes are well made, and those that matter have values.
func shapesHold(m api.Match) bool {
	if m.Shape < 0 || m.Shape >= len(m.Shapes) {
		return false
	}
	for _, h := range m.Shapes {
		if !isMade(h, len(m.Shapes)) {
			return false
		}
	}
	l := reached(m)
	least := leastOf(m.Shapes, l)
	return !slices.ContainsFunc(l, func(s int) bool { return least[s].size == 0 })
}

// isMade tells whether a shape is well made, as one of a list of so many.
func isMade(h api.Shape, shapes int) bool {
	lowest := 0
	switch h.Kind {
	case api.HInt, api.HStr:
		return len(h.Args) == 0
	case api.HData:
		if len(h.Args) == 0 {
			return false
		}
		fallthrough
	case api.HExn:
		lowest = none
		fallthrough
	case api.HRec:
		return !slices.ContainsFunc(h.Args, func(a int) bool { return a < lowest || a >= shapes })
	}
	return false
}

// reached are the shapes that are reached from the match's own, itself among them.
func reached(m api.Match) []int {
	met := make([]bool, len(m.Shapes))
	met[m.Shape] = true
	l := []int{m.Shape}
	for i := 0; i < len(l); i++ {
		for _, a := range m.Shapes[l[i]].Args {
			if a != none && !met[a] {
				met[a] = true
				l = append(l, a)
			}
		}
	}
	return l
}

// patterns are patterns that are held against shapes.
type patterns struct {
	pats   []api.Pat
	shapes []api.Shape
	wanted [][]int // the shapes for which each pattern must be one
	keep   bool    // these are told: rising, each once
}

// rowsHold tells whether all rows are patterns for the shape.
func rowsHold(m api.Match) bool {
	w := patterns{pats: m.Pats, shapes: m.Shapes}
	return w.hold(m.Rows, m.Shape)
}

// hold tells whether all rows are patterns for a shape. Each pattern is asked once for each shape, however often it stands in others: those in which it stands come ahead of it, since they have higher numbers.
func (w *patterns) hold(rows []int, shape int) bool {
	w.wanted = make([][]int, len(w.pats))
	for _, p := range rows {
		if !w.want(p, len(w.pats), shape) {
			return false
		}
	}
	for p, l := range slices.Backward(w.wanted) {
		slices.Sort(l)
		l = slices.Compact(l)
		if slices.ContainsFunc(l, func(s int) bool { return !w.isFor(p, s) }) {
			return false
		}
		w.wanted[p] = nil
		if w.keep {
			w.wanted[p] = l
		}
	}
	return true
}

// want asks that a pattern is there, with a number below another one, and is one for a shape.
func (w *patterns) want(p, below, shape int) bool {
	if p < 0 || p >= below {
		return false
	}
	l := w.wanted[p]
	if len(l) == 0 || l[len(l)-1] != shape {
		w.wanted[p] = append(l, shape)
	}
	return true
}

// isFor tells whether a pattern is one for a shape, if its parts are what is then wanted of them.
func (w *patterns) isFor(p, shape int) bool {
	x, h := w.pats[p], w.shapes[shape]
	switch x.Kind {
	case api.QAny:
		return true
	case api.QBind:
		return len(x.Args) == 0 || len(x.Args) == 1 && w.want(x.Args[0], p, shape)
	case api.QInt:
		return h.Kind == api.HInt && len(x.Args) == 0
	case api.QStr:
		return h.Kind == api.HStr && len(x.Args) == 0
	case api.QRec:
		return h.Kind == api.HRec && w.wantAll(x.Args, p, h.Args)
	case api.QCon:
		return h.Kind == api.HData && w.wantArg(p, h)
	case api.QExn:
		return h.Kind == api.HExn && w.wantArg(p, h)
	}
	return false
}

func (w *patterns) wantAll(args []int, below int, shapes []int) bool {
	if len(args) != len(shapes) {
		return false
	}
	for i, a := range args {
		if !w.want(a, below, shapes[i]) {
			return false
		}
	}
	return true
}

// wantArg asks that a constructor is one of the shape, with an argument, if it has one there.
func (w *patterns) wantArg(p int, h api.Shape) bool {
	x := w.pats[p]
	if x.N < 0 || x.N >= len(h.Args) {
		return false
	}
	return w.wantAll(x.Args, p, argShape(h, x.N))
}

// argShape is the shape of a constructor's argument; none, if it has no argument.
func argShape(h api.Shape, con int) []int {
	if h.Args[con] == none {
		return nil
	}
	return h.Args[con : con+1]
}
