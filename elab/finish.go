package elab

import (
	"cmp"
	"slices"

	"kiln/api"
)

// whole goes over a declaration, and answers the place of the fault, if there is one.
func (w *walker) whole(i int) (line, column int, e api.Errno) {
	return w.try(func() {
		w.dec(i)
		w.finish()
	})
}

// finish is the end of a declaration: what nothing was said of is settled, and what is known of primitives and records is noted.
func (w *walker) finish() {
	for _, u := range byNode(w.prims) {
		w.settle(u)
	}
	for _, u := range byNode(w.records) {
		t, _ := w.book.Look(u.t)
		if t.Kind != api.YRec {
			w.check(u.node, api.ErrFields)
		}
		w.note(u.node, api.Note{Labels: t.Labels})
	}
}

// settle says for which type constructor a primitive stands.
func (w *walker) settle(u use) {
	con := -1
	if u.t != none {
		w.check(u.node, w.book.Settle(u.t))
		t, _ := w.book.Look(u.t)
		con = t.Con
	}
	if n := w.notes[u.node]; n.Is == api.SPrim {
		n.Con = con
		w.note(u.node, n)
	}
}

// byNode are uses by the rising numbers of their nodes.
func byNode(l []use) []use {
	slices.SortStableFunc(l, func(a, b use) int { return cmp.Compare(a.node, b.node) })
	return l
}
