package elab

import (
	"kiln/api"
)

func (w *walker) expName(i int) int {
	e, ok := w.named(i)
	if !ok {
		w.check(i, api.ErrUnbound)
	}
	var t int
	if e.Is == api.SPrim {
		t = w.primitive(i, e.Scheme)
	} else {
		t = w.instance(i, e.Scheme)
	}
	w.noteEntry(i, e)
	return t
}

// primitive is the type of a primitive, whose variables keep their class.
func (w *walker) primitive(i int, s api.Scheme) int {
	overloaded := none
	var vars []int
	for _, v := range s.Vars {
		like, _ := w.book.Look(v)
		made, e := w.book.Var(w.depth(), w.book.Equal(v), like.Class)
		w.check(i, e)
		vars = append(vars, made)
		if like.Class != api.Any && overloaded == none {
			overloaded = made
		}
	}
	w.noteUse(use{i, overloaded})
	return w.put(i, s, vars)
}

// noteUse keeps the use of a primitive in mind. At several places a node may be one that is not overloaded as often as it likes: once is enough.
func (w *walker) noteUse(u use) {
	t := &w.traces[u.node]
	if u.t == none && t.plain == w.walk {
		return
	}
	t.plain = 0
	if u.t == none {
		t.plain = w.walk
	}
	w.prims = append(w.prims, u)
}

func (w *walker) expRecord(i int) int { return w.record(i, w.fields(w.nodes[i].Kids, w.exp)) }

func (w *walker) expApp(i int) int {
	kids := w.nodes[i].Kids
	function := w.exp(kids[0])
	argument := w.exp(kids[1])
	result := w.variable(i)
	w.unify(i, function, w.arrow(i, argument, result))
	return result
}

func (w *walker) expTyped(i int) int {
	kids := w.nodes[i].Kids
	t := w.exp(kids[0])
	w.unify(i, t, w.ty(kids[1]))
	return t
}

func (w *walker) expFn(i int) int {
	from, to := w.variable(i), w.variable(i)
	for _, k := range w.nodes[i].Kids {
		w.rule(k, from, to)
	}
	return w.arrow(i, from, to)
}

func (w *walker) expHandle(i int) int {
	kids := w.nodes[i].Kids
	t := w.exp(kids[0])
	for _, k := range kids[1:] {
		w.rule(k, w.base[api.ConExn], t)
	}
	return t
}

// rule goes over an NRule from one type to another.
func (w *walker) rule(i, from, to int) {
	kids := w.nodes[i].Kids
	w.bound = newBinder()
	w.unify(i, from, w.pat(kids[0]))
	before := w.env.Mark()
	w.addBare(w.bound.names)
	w.unify(i, to, w.exp(kids[1]))
	w.env.Drop(before)
}

// addBare puts names into the environment whose types are not general.
func (w *walker) addBare(names []binding) {
	for _, b := range names {
		w.addOwn(b.entry(api.Scheme{Type: b.t}))
	}
}

func (b binding) entry(s api.Scheme) api.Entry {
	return api.Entry{Name: b.name, Is: api.SVar, Scheme: s, At: api.Access{Id: b.id}}
}

func (w *walker) expRaise(i int) int {
	w.unify(i, w.base[api.ConExn], w.exp(w.nodes[i].Kids[0]))
	return w.variable(i)
}

func (w *walker) expLet(i int) int {
	kids := w.nodes[i].Kids
	before, made := w.env.Mark(), len(w.cons)
	w.all(kids[0])
	t := w.exp(kids[1])
	w.env.Drop(before)
	if len(w.cons) > made && w.escapes(w.cons[made], t) {
		w.check(i, api.ErrEscape)
	}
	return t
}
