package elab

import (
	"slices"

	"kiln/api"
)

// escapes tells whether a type constructor from a number on stands in a type, or in the type of a variable of the environment whose type was not known. (Where it was known none of these can stand, since they were made after it.)
func (w *walker) escapes(from, t int) bool {
	if w.stands(from, t) || w.ownReach(from) {
		return true
	}
	turned := slices.ContainsFunc(w.order, func(v int) bool { return w.stands(from, w.copies[v]) })
	return turned && w.othersReach(from)
}

// ownReach tells whether it stands in the type of a variable of this declaration.
func (w *walker) ownReach(from int) bool {
	for _, r := range w.env.vals.rows[w.start.vals:] {
		v := r.item
		if v.own && !v.closed && w.reaches(from, v.Entry) {
			return true
		}
		v.closed = v.closed || w.isClosed(v.Scheme)
	}
	return false
}

// isClosed tells whether a type has no variable that its scheme has not: then it need not be looked at again.
func (w *walker) isClosed(s api.Scheme) bool {
	_, e := w.book.Generalize(s.Type, api.MaxLevel) // of a too large one the variables are not told
	return e == api.OK && len(w.loose(s)) == 0
}

// othersReach tells whether it stands in the type of a variable that was there before.
func (w *walker) othersReach(from int) bool {
	return slices.ContainsFunc(w.env.vals.rows, func(r row[*value]) bool { return w.reaches(from, r.item.Entry) }) ||
		slices.ContainsFunc(w.env.strs.rows, func(r row[*structure]) bool { return w.reachesWithin(from, r.item.Env) })
}

// reaches tells whether a type constructor from a number on stands in a variable's type.
func (w *walker) reaches(from int, e api.Entry) bool {
	return e.Is == api.SVar && w.stands(from, e.Scheme.Type)
}

// reachesWithin tells whether it does of a variable in a structure.
func (w *walker) reachesWithin(from int, v api.Env) bool {
	return slices.ContainsFunc(v.Vals, func(e api.Entry) bool { return w.reaches(from, e) }) ||
		slices.ContainsFunc(v.Strs, func(s api.Str) bool { return w.reachesWithin(from, s.Env) })
}

// stands tells whether a type constructor from a number on stands in a type. It looks at each part once: a type may have become large without end.
func (w *walker) stands(from, t int) bool {
	met := map[int]struct{}{}
	todo := []int{t}
	for len(todo) > 0 {
		t = todo[len(todo)-1]
		todo = todo[:len(todo)-1]
		if _, again := met[t]; again {
			continue
		}
		met[t] = struct{}{}
		part, _ := w.book.Look(t)
		if part.Kind == api.YCon && part.Con >= from {
			return true
		}
		todo = append(todo, part.Args...)
		if part.Kind == api.YVar {
			todo = append(todo, w.copied(t)...)
		}
	}
	return false
}
