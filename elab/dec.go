package elab

import (
	"slices"

	"kiln/api"
)

// all goes over the declarations of an NDecs.
func (w *walker) all(i int) {
	for _, k := range w.nodes[i].Kids {
		w.dec(k)
	}
}

func (w *walker) decModule(i int) { w.check(i, api.ErrModule) }

func (w *walker) decLocal(i int) {
	kids := w.nodes[i].Kids
	before := w.env.Mark()
	w.all(kids[0])
	between := w.env.Mark()
	w.all(kids[1])
	second := w.env.Cut(between)
	w.env.Drop(before)
	w.putOwn(second)
}

func (w *walker) decOpen(i int) {
	for _, k := range w.nodes[i].Kids {
		n := w.nodes[k]
		s, _, ok := w.env.FindStr(append(slices.Clone(n.Path), n.Text))
		if !ok {
			w.check(k, api.ErrUnbound)
		}
		w.env.Open(s)
	}
}

func (w *walker) decType(i int) {
	var made []api.Typ
	for _, k := range w.nodes[i].Kids {
		n := w.nodes[k]
		last := len(n.Kids) - 1
		tyvars := n.Kids[:last]
		vars := w.newVars(tyvars)
		around := w.enterTypes(tyvars, vars)
		t := w.ty(n.Kids[last])
		w.scope = around
		made = append(made, api.Typ{Name: n.Text, Scheme: api.Scheme{Vars: vars, Type: t}})
	}
	for _, t := range made {
		w.env.AddTyp(t)
	}
}

// newVars are new variables of types, for TVars.
func (w *walker) newVars(tyvars []int) []int {
	var vars []int
	for _, k := range tyvars {
		v, e := w.book.Var(w.depth(), isEqual(w.nodes[k].Text), api.Any)
		w.check(k, e)
		vars = append(vars, v)
	}
	return vars
}

// enterTypes begins a scope in which TVars stand for types, and answers the one around it.
func (w *walker) enterTypes(tyvars, types []int) scope {
	around := w.scope
	var names []string
	for _, k := range tyvars {
		names = append(names, w.nodes[k].Text)
	}
	w.scope = w.inner(meanings(names, types))
	return around
}

func (w *walker) decCopy(i int) {
	n := w.nodes[i]
	of := w.nodes[n.Kids[0]]
	typ, _, ok := w.env.FindTyp(of.Path, of.Text)
	if !ok {
		w.check(n.Kids[0], api.ErrUnbound)
	}
	typ.Name = n.Text
	w.env.AddTyp(typ)
	for _, c := range typ.Cons {
		w.env.AddOther(c)
	}
}

func (w *walker) decExn(i int) {
	var made []api.Entry
	for _, k := range w.nodes[i].Kids {
		if w.nodes[k].Kind == api.NSame {
			made = append(made, w.sameExn(k))
		} else {
			made = append(made, w.newExn(k))
		}
	}
	for at, e := range made {
		w.addOwn(e)
		w.noteEntry(w.nodes[i].Kids[at], e)
	}
}

// newExn is the exception of an NCon.
func (w *walker) newExn(i int) api.Entry {
	n := w.nodes[i]
	e := api.Entry{Name: n.Text, Is: api.SExn, Scheme: api.Scheme{Type: w.base[api.ConExn]}, Arg: len(n.Kids) > 0}
	if e.Arg {
		e.Scheme.Type = w.arrow(i, w.ty(n.Kids[0]), w.base[api.ConExn])
	}
	e.At = api.Access{Id: w.Fresh()}
	return e
}

// sameExn is the exception of an NSame: another one's, by a name of its own.
func (w *walker) sameExn(i int) api.Entry {
	n := w.nodes[i]
	e, ok := w.named(n.Kids[0])
	if !ok || e.Is != api.SExn {
		w.check(n.Kids[0], api.ErrUnbound)
	}
	e.Name = n.Text
	return e
}
