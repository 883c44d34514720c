package modules

import (
	"math"
	"slices"

	"kiln/api"
	"kiln/elab"
	"kiln/names"
	"kiln/tree"
)

// checker keeps what goes on from program to program.
type checker struct {
	*elab.Elab
	sigs     names.Table[sigma]
	functors names.Table[functor]
	parts    map[int]source // of nodes of the last program
	cons     int            // how many type constructors the book has at least
}

// begin begins a program's tree.
func (c *checker) begin(l []api.Node, root int) api.Errno {
	if root >= 0 && root < len(l) && l[root].Kind != api.NDecs {
		if e := elab.New().Begin(l, root); e != api.OK { // asked of another one, for nothing may change here
			return e
		}
		return api.ErrArg
	}
	return c.Begin(l, root)
}

// constructors is how many type constructors the book has.
func (c *checker) constructors() int {
	for {
		if _, _, _, ok := c.Book().Named(c.cons); !ok {
			return c.cons
		}
		c.cons++
	}
}

// walker goes over a program.
type walker struct {
	*checker
	nodes   []api.Node
	env     names.Scope
	done    names.Mark // how far the environment goes with the root's declarations that are done
	decl    int        // the place of the one that is gone over, among the root's kids
	first   []int      // of each node: the first of the root's declarations that has it below it, from 1 on
	former  former     // what the one that is gone over may have changed
	weights []int      // of each node: at how many places it and those below it stand
	turns   []bool     // of each node: it is, or has below it, a declaration that can turn types
	met     []int      // of each node: the search that met it last
	search  int        // how many searches there were
	limit   int        // how many steps there may be
	steps   int
	kept    int                     // how many bytes the environments of structures and signatures have
	closed  map[*names.Env]struct{} // environments in which no type can turn
	loan    *loan                   // of the root's declaration that is gone over
}

// fault is what is wrong, and where.
type fault struct {
	line, column int
	errno        api.Errno
}

func newWalker(c *checker, l []api.Node, root int) *walker {
	w := &walker{checker: c, nodes: l, first: make([]int, len(l)), weights: make([]int, len(l)), turns: make([]bool, len(l)), met: make([]int, len(l)), limit: math.MaxInt, closed: map[*names.Env]struct{}{}}
	c.parts = map[int]source{}
	for _, i := range tree.Below(l, root) {
		w.weights[i], w.turns[i] = 1, l[i].Kind == api.DVal || l[i].Kind == api.DRec
		for _, k := range l[i].Kids {
			w.weights[i] = min(w.weights[i]+w.weights[k], mostPlaces+1)
			w.turns[i] = w.turns[i] || w.turns[k]
		}
	}
	if w.weights[root] > mostPlaces {
		w.limit = len(l) + mostSteps
	}
	w.env = names.ScopeOf(c.Env())
	w.done = w.env.Mark()
	return w
}

// program goes over the root's declarations, and answers the place of the fault that ends it, if there is one.
func (w *walker) program(root int) (line, column int, e api.Errno) {
	defer func() {
		r := recover()
		f, ok := r.(fault)
		if r != nil && !ok {
			panic(r)
		}
		if ok {
			w.back(root)
			line, column, e = f.line, f.column, f.errno
		}
		w.Set(w.env.Lent())
	}()
	w.root(root)
	return 0, 0, api.OK
}

// back makes all what it was ahead of the root's declaration that has the fault. (What that one made in the book stays, and its numbers are not given out again.)
func (w *walker) back(root int) {
	w.env.Drop(w.done)
	for _, p := range slices.Backward(w.former.parts) {
		w.parts[p.node] = p.source
	}
	for _, i := range tree.Below(w.nodes, w.nodes[root].Kids[w.decl]) {
		if w.first[i] == w.decl+1 {
			w.Note(i, api.Note{})
		} else if len(w.former.notes) > 0 {
			w.Note(i, w.former.notes[i])
		}
	}
}

// former is what notes and parts were ahead of a declaration.
type former struct {
	notes []api.Note // none, if no node below it stands below one ahead of it, too
	parts []formerParts
}

type formerParts struct {
	node   int
	source source
}

// setParts says of a node of what its parts are.
func (w *walker) setParts(node int, s source) {
	w.former.parts = append(w.former.parts, formerParts{node, w.parts[node]})
	w.parts[node] = s
}

// enter begins the root's declaration that is gone over next.
func (w *walker) enter(i int) {
	w.former = former{}
	if w.mark(i) {
		w.former.notes = w.Notes()
	}
}

// mark marks the nodes below a declaration of the root, and tells whether one of them that may have a note stands below one ahead of it, too.
func (w *walker) mark(i int) bool {
	again := false
	todo := []int{i}
	for len(todo) > 0 {
		k := todo[len(todo)-1]
		todo = todo[:len(todo)-1]
		if w.first[k] == 0 {
			w.first[k] = w.decl + 1
			todo = append(todo, w.nodes[k].Kids...)
		}
		again = again || w.first[k] <= w.decl && !isPlain(w.nodes[k].Kind)
	}
	return again
}

// isPlain tells whether nodes of a kind, with all below them, have no notes: constants and types.
func isPlain(k api.NodeKind) bool {
	return k >= api.NInt && k <= api.NChar || k >= api.TVar && k <= api.TArrow
}

// check ends the work with a fault at a node, if there is an error.
func (w *walker) check(node int, e api.Errno) {
	w.checkAt(w.nodes[node].Line, w.nodes[node].Column, e)
}

// checkAt ends the work with a fault at a place, if there is an error.
func (w *walker) checkAt(line, column int, e api.Errno) {
	if e != api.OK {
		panic(fault{line, column, e})
	}
}

// mostPlaces is how many places the nodes of a tree may stand at: of more items the document promises nothing.
const mostPlaces = 1<<31 - 1

// mostSteps is how many steps there may be of a tree with more places, beyond one for each node.
const mostSteps = 1 << 21

// count counts steps: places where nodes stand. A tree that is made by hand can have its nodes at so many that nobody lives to see it written out: going over it must end.
func (w *walker) count(node, steps int) {
	w.steps += steps
	if w.steps > w.limit {
		w.check(node, api.ErrMany)
	}
	w.room(node)
}

// keep counts the bytes of an environment that is made at a node.
func (w *walker) keep(node int, v *names.Env) {
	w.kept += v.Weight()
	w.room(node)
}

// mostKept is how many bytes environments of structures and signatures may have: of what can be told some is made anew for a signature's name, for matching, and for an opaque ascription.
const mostKept = 4 * names.Most

// room ends the work, if there are more names than anybody can be told of.
func (w *walker) room(node int) {
	if w.env.Weight() > names.Most || w.kept > mostKept {
		w.check(node, api.ErrMany)
	}
}

// noteAt says of a node where a structure or a functor is.
func (w *walker) noteAt(node int, at api.Access) {
	w.Note(node, api.Note{Is: api.SVar, At: at})
}

// fresh is a new number, and a note of it at a node.
func (w *walker) fresh(node int) api.Access {
	at := api.Access{Id: w.Fresh()}
	w.noteAt(node, at)
	return at
}
