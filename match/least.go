package match

import (
	"cmp"
	"container/heap"

	"kiln/api"
)

// least is the least value of a shape.
type least struct {
	size int // how many values it is made of; 0: there is none
	con  int // of HData: its constructor
}

// huge is what numbers that could be beyond all bounds are at most.
const huge = 1 << 40

// sum is the sum of two numbers, but at most huge.
func sum(a, b int) int { return min(a+b, huge) }

// offer is a value of a shape that was found.
type offer struct {
	least
	shape int
}

// offers are a heap: the least value is the first one.
type offers []offer

func (l offers) Len() int { return len(l) }
func (l offers) Less(i, k int) bool {
	return cmp.Or(cmp.Compare(l[i].size, l[k].size), cmp.Compare(l[i].shape, l[k].shape), cmp.Compare(l[i].con, l[k].con)) < 0
}
func (l offers) Swap(i, k int) { l[i], l[k] = l[k], l[i] }
func (l *offers) Push(x any)   { *l = append(*l, x.(offer)) }
func (l *offers) Pop() any {
	x := (*l)[len(*l)-1]
	*l = (*l)[:len(*l)-1]
	return x
}

// use is where a shape stands in another one: as a field, or as the argument of a constructor.
type use struct {
	shape int
	con   int
}

// ground finds the least values of shapes: the smallest of all first, since no value is smaller than what it is made of.
type ground struct {
	shapes []api.Shape
	found  []least
	uses   [][]use
	lacks  []int // of a record: how many of its fields have no value yet
	sizes  []int // of a record: the sum of the others' sizes
	queue  offers
}

// leastOf are the least values of some shapes, of which none but these can be reached.
func leastOf(shapes []api.Shape, some []int) []least {
	n := len(shapes)
	g := ground{shapes, make([]least, n), make([][]use, n), make([]int, n), make([]int, n), nil}
	for _, s := range some {
		g.begin(s)
	}
	for g.queue.Len() > 0 {
		if x := heap.Pop(&g.queue).(offer); g.found[x.shape].size == 0 {
			g.found[x.shape] = x.least
			g.tell(x.shape, x.size)
		}
	}
	return g.found
}

func (g *ground) offer(shape, size, con int) {
	heap.Push(&g.queue, offer{least{size, con}, shape})
}

// begin offers the values of a shape that are made of nothing else, and notes where other shapes stand in it.
func (g *ground) begin(s int) {
	h := g.shapes[s]
	if h.Kind == api.HRec {
		g.lacks[s] = len(h.Args)
	}
	if h.Kind != api.HData && g.lacks[s] == 0 {
		g.offer(s, 1, 0)
	}
	for i, a := range h.Args {
		switch {
		case a != none:
			g.uses[a] = append(g.uses[a], use{s, i})
		case h.Kind == api.HData:
			g.offer(s, 1, i)
		}
	}
}

// tell offers the values that can be made now that a shape has one.
func (g *ground) tell(shape, size int) {
	for _, u := range g.uses[shape] {
		switch g.shapes[u.shape].Kind {
		case api.HData:
			g.offer(u.shape, sum(1, size), u.con)
		case api.HRec:
			g.lacks[u.shape]--
			g.sizes[u.shape] = sum(g.sizes[u.shape], size)
			if g.lacks[u.shape] == 0 {
				g.offer(u.shape, sum(1, g.sizes[u.shape]), 0)
			}
		}
	}
}
