package cps

import "kiln/api"

// longest is how many terms may be begun between two moves, where nodes stand at several places.
const longest = 32

// terms are those of a program of the small language.
type terms struct {
	list    []api.Term // up to the root; behind it the int 0
	prims   []api.Prim
	numbers map[int]int // of the variables that terms have, from 0 on
	most    int         // how many terms may be begun between two moves
}

// newTerms are those of a program. Where no node stands at several places, no more terms are begun between two moves than there are anyway.
func newTerms(p api.Lambda) *terms {
	l := &terms{prims: api.Prims(), numbers: map[int]int{}}
	l.list = append(append(l.list, p.Nodes[:p.Root+1]...), api.Term{Kind: api.LInt})
	met := make([]bool, p.Root+1)
	met[p.Root] = true
	shared := false
	for i := p.Root; i >= 0; i-- {
		if !met[i] {
			continue
		}
		l.most++
		l.number(l.list[i])
		for _, a := range parts(l.list[i]) {
			shared = shared || met[a]
			met[a] = true
		}
	}
	if shared {
		l.most = longest
	}
	return l
}

// parts are the nodes of which a node is made.
func parts(t api.Term) []int {
	if t.Kind < api.LTuple {
		return nil
	}
	return t.Args
}

// number gives the variables that a node has their numbers.
func (l *terms) number(t api.Term) {
	var has []int
	switch t.Kind {
	case api.LVar:
		has = []int{t.N}
	case api.LPrim:
		has = l.prims[t.N].Raises
	}
	for _, v := range has {
		if _, ok := l.numbers[v]; !ok {
			l.numbers[v] = len(l.numbers)
		}
	}
}

// zero is the int 0.
func (l *terms) zero() value { return ^value(len(l.list) - 1) }
