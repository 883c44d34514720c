package elab

import (
	"kiln/api"
	"kiln/names"
)

// A declaration that is refused may not turn variables of types that were there before. So others stand for these as long as it is gone over, and both become one when it is taken.

// named is what the name of a node stands for as a value.
func (w *walker) named(i int) (api.Entry, bool) {
	e, where, ok := w.env.FindVal(w.nodes[i].Path, w.nodes[i].Text)
	if ok && !w.isOwn(where) {
		e.Scheme = w.detached(i, e.Scheme)
	}
	return e, ok
}

// isOwn tells whether what was found was put there by this declaration.
func (w *walker) isOwn(where names.Where) bool {
	return !where.Other && where.Stamp >= w.start.Stamp
}

// detached is a scheme in whose type others stand for its loose variables.
func (w *walker) detached(node int, s api.Scheme) api.Scheme {
	vars := names.Loose(w.book, s)
	if len(vars) > 0 {
		w.borrowed++
	}
	if len(vars) > 0 && !w.direct {
		s.Type = w.detach(node, s.Type, vars)
	}
	return s
}

// detach is a type in which others stand for some variables.
func (w *walker) detach(node, t int, vars []int) int {
	var copies []int
	for _, v := range vars {
		copies = append(copies, w.copyOf(node, v))
	}
	return w.put(node, api.Scheme{Vars: vars, Type: t}, copies)
}

// copyOf is the variable that stands for another one.
func (w *walker) copyOf(node, v int) int {
	if c, ok := w.copies[v]; ok {
		return c
	}
	is, _ := w.book.Look(v)
	if is.Rigid != "" { // nothing becomes of it
		return v
	}
	c, e := w.book.Var(is.Level, is.Equal, is.Class)
	w.check(node, e)
	if is.Open {
		w.unify(node, c, w.openCopy(node, is))
	}
	w.copies[v], w.order = c, append(w.order, v)
	return c
}

// openCopy is a variable for the records that another one is for.
func (w *walker) openCopy(node int, is api.Type) int {
	var args []int
	for _, a := range is.Args {
		args = append(args, w.detach(node, a, w.book.Free(a)))
	}
	c, e := w.book.Open(is.Level, is.Labels, args...)
	w.check(node, e)
	return c
}

// copied is what stands for a type, if that is a variable for which another one stands.
func (w *walker) copied(t int) []int {
	if len(w.copies) == 0 {
		return nil
	}
	if free := w.book.Free(t); len(free) > 0 {
		if c, ok := w.copies[free[0]]; ok {
			return []int{c}
		}
	}
	return nil
}

// join makes variables and those that stood for them one, or tells that it can't: one of these may have become too large.
func (w *walker) join() bool {
	for _, v := range w.order { // ahead of the first one that is turned
		if _, e := w.book.Generalize(w.copies[v], api.MaxLevel); e != api.OK {
			return false
		}
	}
	for _, v := range w.order {
		if w.book.Unify(v, w.copies[v]) != api.OK {
			return false
		}
	}
	return true
}
