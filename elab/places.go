package elab

import (
	"math"

	"kiln/api"
	"kiln/names"
	"kiln/tree"
)

// mostPlaces is how many places the nodes of a tree may stand at: of more items the document promises nothing.
const mostPlaces = 1<<31 - 1

// mostSteps is how many steps there may be of a tree with more places, beyond one for each node.
const mostSteps = 1 << 21

// stand is how a node stands in a tree.
type stand struct {
	places int  // at how many places it and those below it stand, in what it is the root of; 0, if it is not below the tree's root
	again  bool // it is a kid more than once
}

// standsOf is how nodes stand below a root.
func standsOf(l []api.Node, root int) []stand {
	stands, met := make([]stand, len(l)), make([]int, len(l))
	for _, i := range tree.Below(l, root) {
		stands[i].places = 1
		for _, k := range l[i].Kids {
			stands[i].places = min(stands[i].places+stands[k].places, mostPlaces+1)
			met[k]++
			stands[k].again = met[k] > 1
		}
	}
	return stands
}

// limitOf is how many steps going over a node may take. A tree that is made by hand can have its nodes at so many places that nobody lives to see it written out: going over it must end.
func (e *Elab) limitOf(i int) int {
	if e.standing[i].places > mostPlaces {
		return len(e.nodes) + mostSteps
	}
	return math.MaxInt
}

// count counts a step at a node. The work ends, too, if there are more names than anybody can be told of.
func (w *walker) count(node int) {
	w.steps++
	if w.steps > w.limit || w.env.Weight() > names.Most {
		w.check(node, api.ErrMany)
	}
}

// trace is what was done last at a node.
type trace struct {
	met   int // the search that met it
	noted int // the walk that said something of it
	plain int // the walk that met it last as a primitive that is not overloaded
}

// setting is what types hang on: the scope, and the names of types that there are.
type setting struct{ scope, names int }

// tyAgain is the type of a node that stands at several places. Where these hang on the same it is gone over once.
func (w *walker) tyAgain(i int) int {
	if here := (setting{w.key(), w.env.TypesStamp()}); here != w.here {
		w.here, w.known = here, map[int]int{}
	}
	if t, ok := w.known[i]; ok {
		return t
	}
	borrowed := w.borrowed
	t := w.tys[w.nodes[i].Kind](w, i)
	if w.borrowed == borrowed { // else something may become of it
		w.known[i] = t
	}
	return t
}
