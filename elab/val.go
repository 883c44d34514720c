package elab

import (
	"slices"

	"kiln/api"
)

// bind is an NBind: its pattern's type, and what the pattern binds.
type bind struct {
	node  int
	t     int
	names []binding
}

func (w *walker) decVal(i int) {
	around := w.enter(i)
	nodes := w.nodes[i].Kids
	var types []int
	for _, k := range nodes {
		types = append(types, w.exp(w.nodes[k].Kids[1]))
	}
	w.bound = newBinder()
	var binds []bind
	for at, k := range nodes {
		from := len(w.bound.names)
		t := w.pat(w.nodes[k].Kids[0])
		w.unify(k, t, types[at])
		binds = append(binds, bind{k, t, w.bound.names[from:]})
	}
	w.scope = around
	w.conclude(binds, w.isValue)
}

func (w *walker) decRec(i int) {
	around := w.enter(i)
	var binds []bind
	for _, k := range w.nodes[i].Kids {
		b := w.recName(k)
		binds = append(binds, bind{k, b.t, []binding{b}})
	}
	before := w.env.Mark()
	for _, b := range binds {
		w.addBare(b.names)
	}
	for _, b := range binds {
		w.unify(b.node, b.t, w.exp(w.nodes[b.node].Kids[1]))
	}
	w.env.Drop(before)
	w.scope = around
	w.conclude(binds, func(int) bool { return true })
}

// recName binds the name of a DRec's NBind, with the types that stand around it.
func (w *walker) recName(i int) binding {
	p := w.nodes[i].Kids[0]
	var typed []int
	for w.nodes[p].Kind == api.PTyped {
		typed = append(typed, p)
		p = w.nodes[p].Kids[0]
	}
	if n := w.nodes[p]; n.Kind != api.PName || len(n.Path) > 0 { // layer 6 refuses it so, but such a tree is bare
		w.check(i, api.ErrRec)
	}
	b := w.bind(p, w.nodes[p].Text)
	for _, k := range slices.Backward(typed) {
		w.unify(k, b.t, w.ty(w.nodes[k].Kids[1]))
	}
	return b
}

// enter begins the scope of a DVal or DRec, and answers the one around it.
func (w *walker) enter(i int) scope {
	around := w.scope
	s := valScope{w.inner(map[string]int{}), around.depth() + 1}
	for _, k := range w.tyvarsOf(i) {
		name := w.nodes[k].Text
		if _, ok := s.tyvar(name); !ok {
			t, e := w.book.Rigid(s.level, name)
			w.check(k, e)
			s.means[name] = t
		}
	}
	w.scope = s
	return around
}

// tyvarsOf are the TVars below a DVal or DRec that are not below another one within, rising.
func (w *walker) tyvarsOf(i int) []int {
	w.search++
	var l []int
	todo := slices.Clone(w.nodes[i].Kids)
	for len(todo) > 0 {
		k := todo[len(todo)-1]
		todo = todo[:len(todo)-1]
		if w.traces[k].met == w.search {
			continue
		}
		w.traces[k].met = w.search
		switch n := w.nodes[k]; n.Kind {
		case api.DVal, api.DRec:
		case api.TVar:
			l = append(l, k)
		default:
			todo = append(todo, n.Kids...)
		}
	}
	slices.Sort(l)
	return l
}

// conclude makes the types of what was bound as general as they may be, and puts the names into the environment.
func (w *walker) conclude(binds []bind, isValue func(int) bool) {
	var entries []api.Entry
	for _, b := range binds {
		value := isValue(w.nodes[b.node].Kids[1])
		if value {
			w.settleFree(b)
		} else {
			w.lower(b)
		}
		for _, name := range b.names {
			s := api.Scheme{Type: name.t}
			if value {
				s = w.general(b.node, name.t)
			}
			entries = append(entries, name.entry(s))
		}
	}
	for _, e := range entries {
		w.addOwn(e)
	}
}

func (w *walker) general(node, t int) api.Scheme {
	s, e := w.book.Generalize(t, w.depth())
	w.check(node, e)
	return s
}

// settleFree: what would be general, but is overloaded, is what it is if nothing else is said.
func (w *walker) settleFree(b bind) {
	for _, v := range w.book.Free(b.t) {
		if t, _ := w.book.Look(v); t.Level > w.depth() && t.Class != api.Any {
			w.check(b.node, w.book.Settle(v))
		}
	}
}

// lower: what would be general is not, and is known by its level not to be.
func (w *walker) lower(b bind) {
	for _, v := range w.book.Free(b.t) {
		if t, _ := w.book.Look(v); t.Level > w.depth() {
			w.unify(b.node, v, w.variable(b.node))
		}
	}
}

// isValue tells whether an expression is one that does nothing.
func (w *walker) isValue(i int) bool {
	n := w.nodes[i]
	switch n.Kind {
	case api.NInt, api.NReal, api.NString, api.NChar, api.EName, api.EFn:
		return true
	case api.ETyped:
		return w.isValue(n.Kids[0])
	case api.EApp:
		return w.isMaker(n.Kids[0]) && w.isValue(n.Kids[1])
	case api.ERecord:
		for _, k := range n.Kids {
			if !w.isValue(w.nodes[k].Kids[0]) {
				return false
			}
		}
		return true
	}
	return false
}

// isMaker tells whether an expression is the name of an exception, or of a constructor that makes nothing that can be changed.
func (w *walker) isMaker(i int) bool {
	n := w.notes[i]
	return w.nodes[i].Kind == api.EName && (n.Is == api.SExn || n.Is == api.SCon && n.Con != api.ConRef)
}
