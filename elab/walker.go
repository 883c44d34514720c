package elab

import (
	"kiln/api"
	"kiln/names"
)

// none is where a place or a type might stand, but there is none.
const none = -1

// walker goes over a declaration, or a type.
type walker struct {
	*Elab
	scope
	ways
	first    int        // the number that was to be given out next before
	start    names.Mark // how far the environment went before
	watched  []int      // the rows of variables of this declaration whose types may still turn, rising
	limit    int        // how many steps there may be
	steps    int
	bound    *binder     // of the patterns that are gone over
	cons     []int       // the type constructors that were made, rising
	prims    []use       // each EName of a primitive, with the type that stands for its variable with a class, or none
	records  []use       // each PRecord, with its type
	old      []former    // what notes were before
	scopes   int         // how many scopes there were
	here     setting     // where a type at several places was gone over last
	known    map[int]int // of nodes of such types: what they are there
	borrowed int         // how often a type was met that may still turn
	direct   bool        // variables that were there before are turned themselves
	copies   map[int]int // of variables that were there before: those that stand for them till the end
	order    []int       // these variables, as they were met
}

// use is a node with a type that it has at a place: a node may stand at several.
type use struct{ node, t int }

// former is a node's note as it was.
type former struct {
	node int
	note api.Note
}

// fault is what is wrong, and at which node.
type fault struct {
	node  int
	errno api.Errno
}

// newWalker is one for a node.
func newWalker(e *Elab, i int) *walker {
	e.walk++
	return &walker{Elab: e, first: e.next, start: e.env.Mark(), limit: e.limitOf(i), scope: ground{}, ways: newWays(), known: map[int]int{}, copies: map[int]int{}}
}

// try does some work, and answers the place of the fault that ends it, if there is one; then names, notes and numbers are as before.
func (w *walker) try(work func()) (line, column int, e api.Errno) {
	defer func() {
		r := recover()
		if r == nil {
			return
		}
		f, ok := r.(fault)
		if !ok {
			panic(r)
		}
		w.back()
		line, column, e = w.nodes[f.node].Line, w.nodes[f.node].Column, f.errno
	}()
	work()
	return 0, 0, api.OK
}

// back makes names, notes and numbers what they were.
func (w *walker) back() {
	w.env.Drop(w.start)
	w.next = w.first
	for _, f := range w.old {
		w.notes[f.node] = f.note
	}
}

// check ends the work, if there is an error.
func (w *walker) check(node int, e api.Errno) {
	if e != api.OK {
		panic(fault{node, e})
	}
}

// note says what is known of a node.
func (w *walker) note(node int, n api.Note) {
	if t := &w.traces[node]; t.noted != w.walk { // at several places it may be more than once
		t.noted = w.walk
		w.old = append(w.old, former{node, w.notes[node]})
	}
	w.notes[node] = n
}

// noteEntry says of a node what its name stands for.
func (w *walker) noteEntry(node int, e api.Entry) {
	switch e.Is {
	case api.SVar:
		w.note(node, api.Note{Is: api.SVar, At: e.At})
	case api.SCon:
		w.note(node, api.Note{Is: api.SCon, Con: e.Con, Tag: e.Tag, Count: e.Count, Arg: e.Arg})
	case api.SExn:
		w.note(node, api.Note{Is: api.SExn, At: e.At, Arg: e.Arg})
	case api.SPrim:
		w.note(node, api.Note{Is: api.SPrim, Name: e.Name}) // for which type constructor it stands is known at the end
	}
}

// The calls of the book: what they make, or the fault at a node.

func (w *walker) variable(node int) int {
	t, e := w.book.Var(w.depth(), false, api.Any)
	w.check(node, e)
	return t
}

func (w *walker) arrow(node, from, to int) int {
	t, e := w.book.Arrow(from, to)
	w.check(node, e)
	return t
}

func (w *walker) instance(node int, s api.Scheme) int {
	t, _, e := w.book.Instance(s, w.depth())
	w.check(node, e)
	return t
}

func (w *walker) put(node int, s api.Scheme, args []int) int {
	t, e := w.book.Put(s, args...)
	w.check(node, e)
	return t
}

func (w *walker) unify(node, s, t int) { w.check(node, w.book.Unify(s, t)) }
