package modules

import (
	"kiln/api"
	"kiln/elab"
	"kiln/tree"
)

// checker keeps what goes on from program to program.
type checker struct {
	*elab.Elab
	sigs     table[api.Sigma]
	functors table[api.Functor]
	parts    map[int][]api.Part // of nodes of the last program
	cons     int                // how many type constructors the book has at least
}

// begin begins a program's tree.
func (c *checker) begin(l []api.Node, root int) api.Errno {
	if root >= 0 && root < len(l) && l[root].Kind != api.NDecs {
		if e := elab.New().Begin(l, root); e != api.OK { // asked of another one, for nothing may change here
			return e
		}
		return api.ErrArg
	}
	return c.Begin(l, root)
}

// constructors is how many type constructors the book has.
func (c *checker) constructors() int {
	for {
		if _, _, _, ok := c.Book().Named(c.cons); !ok {
			return c.cons
		}
		c.cons++
	}
}

// walker goes over a program.
type walker struct {
	*checker
	nodes   []api.Node
	env     environment
	done    mark  // how far the environment goes with the root's declarations that are done
	decl    int   // the place of the one that is gone over, among the root's kids
	weights []int // of each node: at how many places those below it stand
	met     []int // of each node: the search that met it last
	search  int   // how many searches there were
	steps   int
}

// fault is what is wrong, and where.
type fault struct {
	line, column int
	errno        api.Errno
}

func newWalker(c *checker, l []api.Node, root int) *walker {
	w := &walker{checker: c, nodes: l, weights: make([]int, len(l)), met: make([]int, len(l))}
	c.parts = map[int][]api.Part{}
	for _, i := range tree.Below(l, root) {
		w.weights[i] = 1
		for _, k := range l[i].Kids {
			w.weights[i] = min(w.weights[i]+w.weights[k], mostSteps)
		}
	}
	w.env.put(c.Env())
	w.done = w.env.mark()
	return w
}

// program goes over the root's declarations, and answers the place of the fault that ends it, if there is one.
func (w *walker) program(root int) (line, column int, e api.Errno) {
	defer func() {
		r := recover()
		f, ok := r.(fault)
		if r != nil && !ok {
			panic(r)
		}
		if ok {
			w.back(root)
			line, column, e = f.line, f.column, f.errno
		}
		w.Set(w.env.since(mark{}))
	}()
	w.root(root)
	return 0, 0, api.OK
}

// back makes all what it was ahead of the root's declaration that has the fault. (What that one made in the book stays, and its numbers are not given out again.)
func (w *walker) back(root int) {
	w.env.cut(w.done)
	kids := w.nodes[root].Kids
	w.search++
	for _, i := range tree.Below(w.nodes, kids[:w.decl]...) {
		w.met[i] = w.search
	}
	for _, i := range tree.Below(w.nodes, kids[w.decl]) {
		if w.met[i] != w.search {
			w.Note(i, api.Note{})
			delete(w.parts, i)
		}
	}
}

// check ends the work with a fault at a node, if there is an error.
func (w *walker) check(node int, e api.Errno) {
	w.checkAt(w.nodes[node].Line, w.nodes[node].Column, e)
}

// checkAt ends the work with a fault at a place, if there is an error.
func (w *walker) checkAt(line, column int, e api.Errno) {
	if e != api.OK {
		panic(fault{line, column, e})
	}
}

// mostSteps is how many steps there may be beyond one for each node.
const mostSteps = 1 << 21

// count counts steps: places where nodes stand, and names that are there once more by a structure's, a signature's or a functor's name. A tree that is made by hand can have its nodes at so many places, and a structure of structures, again and again, so many names, that nobody lives to see them written out: going over it ends here.
func (w *walker) count(node, steps int) {
	w.steps += steps
	if w.steps > len(w.nodes)+mostSteps {
		w.check(node, api.ErrMany)
	}
}

// noteAt says of a node where a structure or a functor is.
func (w *walker) noteAt(node int, at api.Access) {
	w.Note(node, api.Note{Is: api.SVar, At: at})
}

// fresh is a new number, and a note of it at a node.
func (w *walker) fresh(node int) api.Access {
	at := api.Access{Id: w.Fresh()}
	w.noteAt(node, at)
	return at
}
