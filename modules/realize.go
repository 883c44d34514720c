package modules

import (
	"kiln/api"
	"kiln/names"
	"kiln/types"
)

// renew is an environment in which new type constructors, which are like them, stand for some; and these.
func (w *walker) renew(node int, v *names.Env, cons []int) (*names.Env, []int) {
	var made []int
	var by []api.Scheme
	for _, con := range cons {
		name, arity, equal, _ := w.Book().Named(con)
		other, e := w.Book().Con(name, arity, equal)
		w.check(node, e)
		made, by = append(made, other), append(by, w.schemeOf(node, other, arity))
	}
	return w.realize(node, v, cons, by), made
}

// schemeOf is the scheme of a type constructor alone.
func (w *walker) schemeOf(node, con, arity int) api.Scheme {
	var vars []int
	for range arity {
		v, e := w.Book().Var(ownLevel, false, api.Any)
		w.check(node, e)
		vars = append(vars, v)
	}
	t, e := w.Book().Apply(con, vars...)
	w.check(node, e)
	return api.Scheme{Vars: vars, Type: t}
}

// realize is an environment in which type schemes stand for type constructors; errors are at a node.
func (w *walker) realize(node int, v *names.Env, cons []int, by []api.Scheme) *names.Env {
	if len(cons) == 0 {
		return v
	}
	r := realizer{book: w.Book(), cons: cons, by: by, places: map[int]int{}, fail: func(e api.Errno) { w.check(node, e) }}
	for at, con := range cons {
		r.places[con] = at
	}
	m := names.Mapper{Entry: r.entry, Typ: r.typ, Made: func(v *names.Env) { w.keep(node, v) }}
	return m.Env(v)
}

// realizer makes types anew with type schemes in the place of type constructors.
type realizer struct {
	book   *types.Book
	cons   []int
	by     []api.Scheme
	places map[int]int // of each of cons: its place there
	fail   func(api.Errno)
}

func (r *realizer) typ(t api.Typ) api.Typ {
	t.Scheme, t.Cons = r.scheme(t.Scheme), names.CloneAll(t.Cons, r.entry)
	return t
}

func (r *realizer) entry(e api.Entry) api.Entry {
	e.Scheme = r.scheme(e.Scheme)
	if e.Is == api.SCon {
		e.Con = r.con(e.Con)
	}
	return e
}

// scheme is a scheme in which the others stand for their constructors, one behind the other. But for the first one those that stand nowhere in its type are left out.
func (r *realizer) scheme(s api.Scheme) api.Scheme {
	for at := 0; at < len(r.cons); at = r.next(s.Type, at+1) {
		t, e := r.book.Replace(s.Type, r.cons[at], r.by[at])
		r.fail(e)
		s.Type = t
	}
	return s
}

// next is the first place from one on whose constructor stands in a type; behind all of them, if there is none.
func (r *realizer) next(t, from int) int {
	first := len(r.cons)
	met := map[int]struct{}{}
	todo := []int{t}
	for len(todo) > 0 {
		t = todo[len(todo)-1]
		todo = todo[:len(todo)-1]
		if _, again := met[t]; again {
			continue
		}
		met[t] = struct{}{}
		part, _ := r.book.Look(t)
		if at, ok := r.places[part.Con]; ok && part.Kind == api.YCon && at >= from {
			first = min(first, at)
		}
		todo = append(todo, part.Args...)
	}
	return first
}

// con is the number of a type constructor that constructors of a datatype have then.
func (r *realizer) con(con int) int {
	from := 0
	for {
		at, ok := r.places[con]
		if !ok || at < from {
			return con
		}
		if t, _ := r.book.Look(r.by[at].Type); t.Kind == api.YCon {
			con = t.Con
		}
		from = at + 1
	}
}
