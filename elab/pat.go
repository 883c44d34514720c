package elab

import (
	"kiln/api"
	"kiln/fix"
	"kiln/flo"
)

// binder is what the patterns of an NRule, or of a DVal, bind.
type binder struct {
	met   map[string]struct{}
	names []binding
}

// binding is a name that is bound: the number it has, and its type.
type binding struct {
	name string
	id   int
	t    int
}

func newBinder() *binder { return &binder{met: map[string]struct{}{}} }

func (w *walker) intConstant(i int) int {
	_, e := fix.Constant(w.nodes[i].Text)
	w.check(i, e)
	return w.base[api.ConInt]
}

func (w *walker) realConstant(i int) int {
	_, e := flo.Parse(w.nodes[i].Text)
	w.check(i, e)
	return w.base[api.ConReal]
}

func (w *walker) stringConstant(int) int { return w.base[api.ConString] }

func (w *walker) charConstant(int) int { return w.base[api.ConChar] }

// bind binds a name to a new variable of types; the note is at the node.
func (w *walker) bind(node int, name string) binding {
	b := binding{name, w.Fresh(), w.variable(node)}
	w.note(node, api.Note{Is: api.SVar, At: api.Access{Id: b.id}})
	return b
}

// bindOnce binds a name of a pattern, which may not have been bound by the others.
func (w *walker) bindOnce(node int) int {
	name := w.nodes[node].Text
	if _, twice := w.bound.met[name]; twice {
		w.check(node, api.ErrTwice)
	}
	w.bound.met[name] = struct{}{}
	b := w.bind(node, name)
	w.bound.names = append(w.bound.names, b)
	return b.t
}

// matched is what the name of a PName stands for, if that is something that can be matched.
func (w *walker) matched(i int) (api.Entry, bool) {
	e, _, ok := w.env.FindVal(w.nodes[i].Path, w.nodes[i].Text)
	if !ok || e.Is != api.SCon && e.Is != api.SExn {
		return api.Entry{}, false
	}
	return w.named(i)
}

func (w *walker) patName(i int) int {
	e, ok := w.matched(i)
	switch {
	case ok && e.Arg:
		w.check(i, api.ErrPat)
	case ok:
		t := w.instance(i, e.Scheme)
		w.noteEntry(i, e)
		return t
	case len(w.nodes[i].Path) > 0:
		w.check(i, api.ErrUnbound)
	}
	return w.bindOnce(i)
}

func (w *walker) patApp(i int) int {
	name, arg := w.nodes[i].Kids[0], w.nodes[i].Kids[1]
	e, ok := w.matched(name)
	switch {
	case !ok:
		w.check(name, api.ErrUnbound)
	case !e.Arg:
		w.check(name, api.ErrPat)
	}
	made, _ := w.book.Look(w.instance(name, e.Scheme))
	if made.Kind != api.YArrow { // in an environment that was set it may say so though its type takes nothing
		w.check(name, api.ErrPat)
	}
	w.noteEntry(name, e)
	w.unify(i, made.Args[0], w.pat(arg))
	return made.Args[1]
}

func (w *walker) patRecord(i int) int {
	kids := w.nodes[i].Kids
	dots := len(kids) > 0 && w.nodes[kids[len(kids)-1]].Kind == api.PDots
	if dots {
		kids = kids[:len(kids)-1]
	}
	l := w.fields(kids, w.pat)
	var t int
	if dots {
		t = w.openRecord(i, l)
	} else {
		t = w.record(i, l)
	}
	w.records = append(w.records, use{i, t})
	return t
}

func (w *walker) patTyped(i int) int {
	kids := w.nodes[i].Kids
	t := w.pat(kids[0])
	w.unify(i, t, w.ty(kids[1]))
	return t
}

func (w *walker) patAs(i int) int {
	t := w.bindOnce(i)
	w.unify(i, t, w.pat(w.nodes[i].Kids[0]))
	return t
}
