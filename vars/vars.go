// Package vars is what layers 11, 12, 13 and 15 have in common about variables: which ones are free in a node, and what they are bound to in a run.
package vars

import "slices"

// Node is what a node of a program has to do with variables.
type Node struct {
	Has   []int // the variables that it has itself
	Out   []int // the nodes of which it is made and in which it binds nothing
	Binds []int // the variables that it binds
	In    []int // the nodes of which it is made and in which it binds these
}

// Free are the variables that are free in a node, rising, each once. Of each node look tells; nodes that are not lower than the one that is made of them count as nothing.
func Free(root int, look func(int) Node) []int {
	f := gathered(root, look)
	f.walk(root)
	if f.shared {
		f.settle(root)
	}
	slices.Sort(f.free)
	return slices.Compact(f.free)
}

// finder finds free variables.
type finder struct {
	nodes  []node
	shared bool  // a node that is made of others stands at several places
	vars   []int // the variables that are bound somewhere
	state  []state
	free   []int // the free variables that were found; one may stand there twice
}

// node is a Node with its variables by their places in the finder's list.
type node struct {
	has, binds []int32
	out, in    []int
}

// state is what is known of a variable that is bound somewhere.
type state struct {
	used bool // some node has it
	free bool
	deep int // how often it is bound around the place where the walk is
}

// gathered knows the nodes of which the root is made.
func gathered(root int, look func(int) Node) *finder {
	f := &finder{nodes: make([]node, root+1)}
	has := make([][]int, root+1)
	places := map[int]int32{}
	met := make([]bool, root+1)
	met[root] = true
	for i := root; i >= 0; i-- { // what a node is made of is lower
		if !met[i] {
			continue
		}
		l := look(i)
		f.nodes[i].out, f.nodes[i].in = below(l.Out, i), below(l.In, i)
		has[i] = l.Has
		for _, v := range l.Binds {
			if _, ok := places[v]; !ok {
				places[v] = int32(len(f.vars))
				f.vars = append(f.vars, v)
			}
			f.nodes[i].binds = append(f.nodes[i].binds, places[v])
		}
		meet(met, f.nodes[i].out)
		meet(met, f.nodes[i].in)
	}
	f.state = make([]state, len(f.vars))
	for i, l := range has {
		f.place(&f.nodes[i], l, places)
	}
	return f
}

// below are those of some nodes that are lower than another one.
func below(l []int, bound int) []int {
	strange := func(a int) bool { return a < 0 || a >= bound }
	if !slices.ContainsFunc(l, strange) {
		return l
	}
	return slices.DeleteFunc(slices.Clone(l), strange)
}

func meet(met []bool, l []int) {
	for _, a := range l {
		met[a] = true
	}
}

// place finds the places of variables that a node has. Those that nobody binds are free.
func (f *finder) place(n *node, has []int, places map[int]int32) {
	for _, v := range has {
		at, ok := places[v]
		if !ok {
			f.free = append(f.free, v)
			continue
		}
		n.has = append(n.has, at)
		f.state[at].used = true
	}
}

// tell notes that a variable is free.
func (f *finder) tell(at int32) {
	if !f.state[at].free {
		f.state[at].free = true
		f.free = append(f.free, f.vars[at])
	}
}
