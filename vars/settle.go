package vars

// wide is how many variables are settled at once.
const wide = 512

// set is which ones of these are meant: a bit for each.
type set [wide / 64]uint64

// bit is where a variable's bit is.
type bit struct {
	word int
	mask uint64 // 0, if it is none of those that are settled now
}

// settle tells the free ones among the variables that were bound on all ways that the walk took, where there are others. Each node is gone over from the lowest on, so that of those of which it is made one knows what is free in them.
func (f *finder) settle(root int) {
	free := make([]set, len(f.nodes))
	bits := make([]bit, len(f.vars))
	var some []int32
	for v, s := range f.state {
		if s.used && !s.free {
			some = append(some, int32(v))
		}
	}
	for len(some) > 0 {
		now := some[:min(wide, len(some))]
		some = some[len(now):]
		for i, v := range now {
			bits[v] = bit{i / 64, 1 << (i % 64)}
		}
		for i := range f.nodes {
			f.nodes[i].free(&free[i], free, bits)
		}
		for _, v := range now {
			if b := bits[v]; free[root][b.word]&b.mask != 0 {
				f.tell(v)
			}
			bits[v] = bit{}
		}
	}
}

// free is which variables are free in a node, by those that are in the nodes of which it is made.
func (n *node) free(l *set, free []set, bits []bit) {
	*l = set{}
	for _, a := range n.in {
		l.add(&free[a])
	}
	for _, v := range n.binds {
		l[bits[v].word] &^= bits[v].mask
	}
	for _, a := range n.out {
		l.add(&free[a])
	}
	for _, v := range n.has {
		l[bits[v].word] |= bits[v].mask
	}
}

// add puts all of another set into a set.
func (l *set) add(more *set) {
	for i, w := range more {
		l[i] |= w
	}
}
