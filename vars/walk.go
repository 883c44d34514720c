package vars

// stop is a place where the walk is: a node, and how many of those of which it is made were gone to.
type stop struct {
	node int
	done int
}

// walk goes to each node once, from the root, and to those that are made of none at each of their places. A variable that is not bound on the way to a node that has it is free; and one that is bound on all these ways is not, if nothing is shared.
func (f *finder) walk(root int) {
	met := make([]bool, len(f.nodes))
	f.meet(root)
	way := []stop{{node: root}}
	for len(way) > 0 {
		s := &way[len(way)-1]
		n := &f.nodes[s.node]
		if s.done == len(n.out) {
			f.bind(n, 1)
		}
		if s.done == n.size() {
			f.bind(n, -1)
			way = way[:len(way)-1]
			continue
		}
		a := n.part(s.done)
		s.done++
		switch {
		case f.nodes[a].size() == 0:
			f.meet(a)
		case met[a]:
			f.shared = true
		default:
			met[a] = true
			f.meet(a)
			way = append(way, stop{node: a})
		}
	}
}

// size is of how many nodes a node is made.
func (n *node) size() int { return len(n.out) + len(n.in) }

// part is one of the nodes of which a node is made, those in which it binds nothing ahead of the others.
func (n *node) part(i int) int {
	if i < len(n.out) {
		return n.out[i]
	}
	return n.in[i-len(n.out)]
}

// meet tells those variables of a node that are not bound where the walk is.
func (f *finder) meet(i int) {
	for _, v := range f.nodes[i].has {
		if f.state[v].deep == 0 {
			f.tell(v)
		}
	}
}

// bind notes that a node's variables are bound once more, or once less.
func (f *finder) bind(n *node, more int) {
	for _, v := range n.binds {
		f.state[v].deep += more
	}
}
