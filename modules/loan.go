package modules

import (
	"slices"

	"kiln/api"
	"kiln/names"
	"kiln/types"
)

// A declaration of the root that is refused may not turn variables of types that were there before, though declarations in it that were taken did. So others stand for these as long as it is gone over, and both become one when it is taken.

// loan is the variables that stand for others.
type loan struct {
	book   *types.Book
	fail   func(api.Errno) // ends the work, if there is an error
	mapper names.Mapper    // of environments
	copies map[int]int     // of variables that were there before: those that stand for them
	order  []int           // these variables, as they were met
}

// borrow begins a loan for a root's declaration; errors are there.
func (w *walker) borrow(node int) {
	l := &loan{book: w.Book(), fail: func(e api.Errno) { w.check(node, e) }, copies: map[int]int{}}
	l.mapper = names.Mapper{Entry: l.entry, Typ: l.typ, Stays: w.isClosed, Made: func(v *names.Env) { w.keep(node, v) }}
	w.loan = l
}

// repay ends the loan: variables and those that stood for them become one.
func (w *walker) repay() {
	l := w.loan
	w.loan = nil
	g := grower{loan: l, stands: map[int]int{}}
	for _, v := range l.order {
		if c := l.copies[v]; l.book.Unify(v, c) != api.OK { // that has become too large to be unified with something
			g.stands[c] = v
			g.roots = append(g.roots, c)
		}
	}
	g.grow()
}

// isLent tells whether what was found is lent: it was there before the root's declaration that is gone over.
func (w *walker) isLent(where names.Where) bool { return w.loan != nil && where.Stamp < w.done.Stamp }

// drawn is an environment that was found, as it may be used.
func (w *walker) drawn(where names.Where, v *names.Env) *names.Env {
	if w.isLent(where) {
		return w.loan.mapper.Env(v)
	}
	return v
}

// drawnEntry is a value that was found, as it may be used.
func (w *walker) drawnEntry(where names.Where, e api.Entry) api.Entry {
	if w.isLent(where) {
		return w.loan.entry(e)
	}
	return e
}

// drawnTyp is a type that was found, as it may be used.
func (w *walker) drawnTyp(where names.Where, t api.Typ) api.Typ {
	if w.isLent(where) {
		return w.loan.typ(t)
	}
	return t
}

// isClosed tells whether nothing can become of the types in an environment any more.
func (w *walker) isClosed(v *names.Env) bool {
	if _, known := w.closed[v]; known {
		return true
	}
	isLoose := func(e api.Entry) bool { return len(names.Loose(w.Book(), e.Scheme)) > 0 }
	for e := range v.OwnVals() {
		if isLoose(e) {
			return false
		}
	}
	for t := range v.OwnTypes() {
		if isLoose(api.Entry{Scheme: t.Scheme}) || slices.ContainsFunc(t.Cons, isLoose) {
			return false
		}
	}
	for inner := range v.Inner() {
		if !w.isClosed(inner) {
			return false
		}
	}
	w.closed[v] = struct{}{}
	return true
}

func (l *loan) entry(e api.Entry) api.Entry {
	e.Scheme = l.scheme(e.Scheme)
	return e
}

func (l *loan) typ(t api.Typ) api.Typ {
	t.Scheme, t.Cons = l.scheme(t.Scheme), names.CloneAll(t.Cons, l.entry)
	return t
}

// scheme is a scheme in whose type others stand for its loose variables.
func (l *loan) scheme(s api.Scheme) api.Scheme {
	if vars := names.Loose(l.book, s); len(vars) > 0 {
		s.Type = l.detach(s.Type, vars)
	}
	return s
}

// detach is a type in which others stand for some variables.
func (l *loan) detach(t int, vars []int) int {
	var copies []int
	for _, v := range vars {
		copies = append(copies, l.copyOf(v))
	}
	t, e := l.book.Put(api.Scheme{Vars: vars, Type: t}, copies...)
	l.fail(e)
	return t
}

// copyOf is the variable that stands for another one.
func (l *loan) copyOf(v int) int {
	if c, ok := l.copies[v]; ok {
		return c
	}
	is, _ := l.book.Look(v)
	if is.Rigid != "" { // nothing becomes of it
		return v
	}
	c, e := l.book.Var(is.Level, is.Equal, is.Class)
	l.fail(e)
	if is.Open {
		var args []int
		for _, a := range is.Args {
			args = append(args, l.detach(a, l.book.Free(a)))
		}
		l.fail(l.book.Unify(c, l.like(is, args)))
	}
	l.copies[v], l.order = c, append(l.order, v)
	return c
}

// like is a type as another one is, but for its parts.
func (l *loan) like(is api.Type, parts []int) int {
	var t int
	var e api.Errno
	switch is.Kind {
	case api.YVar:
		t, e = l.book.Open(is.Level, is.Labels, parts...)
	case api.YCon:
		t, e = l.book.Apply(is.Con, parts...)
	case api.YRec:
		t, e = l.book.Record(is.Labels, parts...)
	case api.YArrow:
		t, e = l.book.Arrow(parts[0], parts[1])
	}
	l.fail(e)
	return t
}
