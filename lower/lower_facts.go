package lower

import (
	"slices"

	"kiln/api"
)

// placesOf is at how many places each node of a unit stands that is begun, or is a part of one that is.
func placesOf(u *unit) []int {
	places := make([]int, u.Root+1)
	places[u.Root] = 1
	for i := u.Root; i >= 0; i-- {
		if places[i] == 0 {
			continue
		}
		for _, k := range u.begun(i) {
			places[k]++
		}
	}
	return places
}

// begun are a node's kids without types, signatures, and what is in declarations that do nothing.
func (u *unit) begun(i int) []int {
	kids := u.kids(i)
	switch u.Nodes[i].Kind {
	case api.ETyped, api.PTyped, api.STrans, api.SOpaque:
		return kids[:1]
	case api.DType, api.DData, api.DCopy, api.DOpen, api.DSig, api.NCon, api.NSame, api.NSig:
		return nil
	}
	return kids
}

// hasRepeats tells whether a node of a unit stands at several places.
func hasRepeats(u *unit) bool {
	return slices.ContainsFunc(placesOf(u), func(n int) bool { return n > 1 })
}

// facts are what is known of a unit's nodes ahead of lowering them.
type facts struct {
	tests []int  // how many tests a pattern makes that may fail
	binds []bool // a pattern binds a variable
}

func factsOf(u *unit) facts {
	f := facts{make([]int, u.Root+1), make([]bool, u.Root+1)}
	for i, n := range placesOf(u) {
		if n > 0 {
			f.learn(u, i)
		}
	}
	return f
}

// learn finds what is known of a node by what is known of its kids.
func (f *facts) learn(u *unit, i int) {
	f.tests[i], f.binds[i] = ownTests(u, i), bindsItself(u, i)
	switch k := u.Nodes[i].Kind; {
	case k >= api.PWild && k <= api.PAs, k == api.NField:
		for _, kid := range u.begun(i) {
			f.tests[i] += f.tests[kid]
			f.binds[i] = f.binds[i] || f.binds[kid]
		}
	}
}

// ownTests is how many tests a pattern makes itself. (Of a PApp it is the name's.)
func ownTests(u *unit, i int) int {
	switch n := u.Notes[i]; u.Nodes[i].Kind {
	case api.NInt, api.NString, api.NChar:
		return 1
	case api.PName:
		if n.Is == api.SVar || n.Is == api.SCon && n.Count == 1 {
			return 0
		}
		return 1
	}
	return 0
}

// bindsItself tells whether a pattern is a variable, or has one besides.
func bindsItself(u *unit, i int) bool {
	k := u.Nodes[i].Kind
	return k == api.PAs || k == api.PName && u.Notes[i].Is == api.SVar
}
