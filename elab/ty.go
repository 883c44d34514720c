package elab

import (
	"slices"

	"kiln/api"
	"kiln/labels"
)

func (w *walker) tyVariable(i int) int {
	t, ok := w.tyvar(w.nodes[i].Text)
	if !ok {
		w.check(i, api.ErrUnbound)
	}
	return t
}

func (w *walker) tyCon(i int) int {
	n := w.nodes[i]
	typ, _, ok := w.env.FindTyp(n.Path, n.Text)
	if !ok {
		w.check(i, api.ErrUnbound)
	}
	var args []int
	for _, k := range n.Kids {
		args = append(args, w.ty(k))
	}
	return w.put(i, w.detached(i, typ.Scheme), args)
}

func (w *walker) tyRec(i int) int { return w.record(i, w.fields(w.nodes[i].Kids, w.ty)) }

func (w *walker) tyArrow(i int) int {
	n := w.nodes[i]
	from := w.ty(n.Kids[0])
	return w.arrow(i, from, w.ty(n.Kids[1]))
}

// field is a label with a type.
type field struct {
	label string
	t     int
}

// fields goes over the NFields of a record, in the order in which they stand.
func (w *walker) fields(nodes []int, of func(int) int) []field {
	var l []field
	for _, k := range nodes {
		n := w.nodes[k]
		l = append(l, field{n.Text, of(n.Kids[0])})
	}
	return l
}

// inOrder are the labels and the types of fields, as the book takes them.
func inOrder(l []field) ([]string, []int) {
	byLabel := func(a, b field) int { return labels.Compare(a.label, b.label) }
	if !slices.IsSortedFunc(l, byLabel) {
		slices.SortStableFunc(l, byLabel)
	}
	var names []string
	var types []int
	for _, f := range l {
		names, types = append(names, f.label), append(types, f.t)
	}
	return names, types
}

// record is the type of a record with these fields.
func (w *walker) record(node int, l []field) int {
	names, types := inOrder(l)
	t, e := w.book.Record(names, types...)
	w.check(node, e)
	return t
}

// openRecord is a variable for the records that have these fields at least.
func (w *walker) openRecord(node int, l []field) int {
	names, types := inOrder(l)
	t, e := w.book.Open(w.depth(), names, types...)
	w.check(node, e)
	return t
}
