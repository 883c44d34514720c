package elab

import (
	"slices"

	"kiln/api"
	"kiln/names"
)

// escapes tells whether a type constructor from a number on stands in a type, or in the type of a variable of the environment whose type was not known. (Where it was known none of these can stand, since they were made after it.)
func (w *walker) escapes(from, t int) bool {
	if w.stands(from, t) || w.ownReach(from) {
		return true
	}
	turned := slices.ContainsFunc(w.order, func(v int) bool { return w.stands(from, w.copies[v]) })
	return turned && w.othersReach(from)
}

// addOwn puts a value of this declaration into the environment.
func (w *walker) addOwn(e api.Entry) {
	w.env.AddVal(e)
	w.watch(w.env.ValRows() - 1)
}

// putOwn puts what this declaration put there before into the environment.
func (w *walker) putOwn(v *names.Env) {
	from := w.env.ValRows()
	w.env.Put(v)
	for i := from; i < w.env.ValRows(); i++ {
		w.watch(i)
	}
}

// watch keeps in mind that the type of the last row may turn, if it is a variable's.
func (w *walker) watch(row int) {
	w.forget(row)
	if w.env.ValRow(row).Is == api.SVar {
		w.watched = append(w.watched, row)
	}
}

// forget lets rows go that are there no more.
func (w *walker) forget(from int) {
	for n := len(w.watched); n > 0 && w.watched[n-1] >= from; n-- {
		w.watched = w.watched[:n-1]
	}
}

// ownReach tells whether it stands in the type of a variable of this declaration.
func (w *walker) ownReach(from int) bool {
	w.forget(w.env.ValRows())
	reached := false
	w.watched = slices.DeleteFunc(w.watched, func(row int) bool {
		e := w.env.ValRow(row)
		reached = reached || w.reaches(from, e)
		return w.isClosed(e.Scheme)
	})
	return reached
}

// isClosed tells whether a type has no variable that its scheme has not: then it need not be looked at again.
func (w *walker) isClosed(s api.Scheme) bool {
	_, e := w.book.Generalize(s.Type, api.MaxLevel) // of a too large one the variables are not told
	return e == api.OK && len(names.Loose(w.book, s)) == 0
}

// othersReach tells whether it stands in the type of a variable that was there before, in a structure, too.
func (w *walker) othersReach(from int) bool {
	for v := range w.env.Envs() {
		for e := range v.OwnVals() {
			if w.reaches(from, e) {
				return true
			}
		}
	}
	return false
}

// reaches tells whether a type constructor from a number on stands in a variable's type.
func (w *walker) reaches(from int, e api.Entry) bool {
	return e.Is == api.SVar && w.stands(from, e.Scheme.Type)
}

// stands tells whether a type constructor from a number on stands in a type. It looks at each part once: a type may have become large without end.
func (w *walker) stands(from, t int) bool {
	met := map[int]struct{}{}
	todo := []int{t}
	for len(todo) > 0 {
		t = todo[len(todo)-1]
		todo = todo[:len(todo)-1]
		if _, again := met[t]; again {
			continue
		}
		met[t] = struct{}{}
		part, _ := w.book.Look(t)
		if part.Kind == api.YCon && part.Con >= from {
			return true
		}
		todo = append(todo, part.Args...)
		if part.Kind == api.YVar {
			todo = append(todo, w.copied(t)...)
		}
	}
	return false
}
