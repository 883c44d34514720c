package elab

import (
	"slices"

	"kiln/api"
)

// escapes tells whether a type constructor from a number on stands in a type, or in the type of a value of the environment that had been left open. (One that had not can have none of these, since they were made after it.)
func (w *walker) escapes(from, t int) bool {
	if w.stands(from, t) {
		return true
	}
	for _, r := range w.env.vals.rows {
		if v := r.item; !v.closed && w.reaches(from, v.Entry) {
			return true
		} else if !v.closed {
			v.closed = w.isClosed(v.Entry)
		}
	}
	for _, r := range w.env.strs.rows {
		if s := r.item; !s.closed && w.reachesWithin(from, s.Env) {
			return true
		} else if !s.closed {
			s.closed = w.areClosed(s.Env)
		}
	}
	return false
}

// reaches tells whether a type constructor from a number on stands in a variable's type.
func (w *walker) reaches(from int, e api.Entry) bool {
	return e.Is == api.SVar && w.stands(from, e.Scheme.Type)
}

// reachesWithin tells whether it does of a variable in a structure.
func (w *walker) reachesWithin(from int, v api.Env) bool {
	return slices.ContainsFunc(v.Vals, func(e api.Entry) bool { return w.reaches(from, e) }) ||
		slices.ContainsFunc(v.Strs, func(s api.Str) bool { return w.reachesWithin(from, s.Env) })
}

// isClosed tells whether nothing can become of an entry's type any more: it is no variable's, or its scheme has all variables of it.
func (w *walker) isClosed(e api.Entry) bool {
	if e.Is != api.SVar {
		return true
	}
	if _, errno := w.book.Generalize(e.Scheme.Type, api.MaxLevel); errno != api.OK { // of a too large one the variables are not told
		return false
	}
	return !slices.ContainsFunc(w.book.Free(e.Scheme.Type), func(v int) bool { return !slices.Contains(e.Scheme.Vars, v) })
}

// areClosed tells whether nothing can become of the types in a structure.
func (w *walker) areClosed(v api.Env) bool {
	return !slices.ContainsFunc(v.Vals, func(e api.Entry) bool { return !w.isClosed(e) }) &&
		!slices.ContainsFunc(v.Strs, func(s api.Str) bool { return !w.areClosed(s.Env) })
}

// stands tells whether a type constructor from a number on stands in a type. It looks at each part once: a type may have become large without end.
func (w *walker) stands(from, t int) bool {
	met := map[int]struct{}{}
	todo := []int{t}
	for len(todo) > 0 {
		t = todo[len(todo)-1]
		todo = todo[:len(todo)-1]
		if _, again := met[t]; again {
			continue
		}
		met[t] = struct{}{}
		part, _ := w.book.Look(t)
		if part.Kind == api.YCon && part.Con >= from {
			return true
		}
		todo = append(todo, part.Args...)
	}
	return false
}
