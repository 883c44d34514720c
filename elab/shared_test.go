package elab

import (
	"math/rand"
	"reflect"
	"slices"
	"testing"

	"kiln/api"
	"kiln/tree"
)

// sharedTypes is a tree in which types that are the same are one node.
func sharedTypes(l []api.Node) ([]api.Node, int) {
	l = cloneNodes(l)
	first := map[string][]int{} // of types with a text: one node of each
	shared := 0
	for i, n := range l {
		for at, k := range n.Kids {
			if !isTy(l[k].Kind) || i > 0 && n.Kind >= api.NTybind && n.Kind <= api.NDatbind && l[k].Kind == api.TVar {
				continue // type variables that stand ahead are those of their declaration
			}
			same := slices.IndexFunc(first[l[k].Text], func(m int) bool { return tree.Same(l, m, l, k) })
			if same < 0 {
				first[l[k].Text] = append(first[l[k].Text], k)
				continue
			}
			if m := first[l[k].Text][same]; m != k {
				l[i].Kids[at] = m
				shared++
			}
		}
	}
	return l, shared
}

// P8.2: types at several places: programs in which each type is one node are elaborated as those in which each has nodes of its own.
func TestSharedTypes(t *testing.T) {
	shared, taken, refused := 0, 0, 0
	for seed := range 200 {
		one, other := &desk{t: t, e: newPair(t).e}, &desk{t: t, e: newPair(t).e}
		s := &scribe{Rand: rand.New(rand.NewSource(int64(seed)))}
		for _, text := range append(s.program(), "val f = fn (x : 'a, y : 'a) => let val g = fn (z : 'a, u : 'b) => (z : 'a, u : 'b) type t = int val h = fn (v : t) => v type t = bool val i = fn (v : t) => v in (g (x, y : 'a), h, i) end") {
			l, root, ok := tryTree(text)
			if !ok {
				continue
			}
			one.l, one.root = l, root
			var n int
			other.l, n = sharedTypes(l)
			other.root = root
			shared += n
			one.start()
			other.start()
			for _, i := range l[root].Kids {
				at, e := one.dec(i)
				its, f := other.dec(i)
				if e != f || at != its && !tree.Same(l, at, l, its) {
					t.Fatalf("%q: %v at %d; shared: %v at %d", text, e, at, f, its)
				}
				if e == api.OK {
					taken++
				} else {
					refused++
				}
			}
			other.askRows(other.rows(), one.rows())
			if !reflect.DeepEqual(one.e.Notes(), other.e.Notes()) || one.e.Fresh() != other.e.Fresh() {
				t.Fatalf("%q: other notes, or numbers", text)
			}
		}
	}
	if shared < 500 || taken < 500 || refused < 50 {
		t.Errorf("%d shared types, %d declarations taken, %d refused", shared, taken, refused)
	}
}
