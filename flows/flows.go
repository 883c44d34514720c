// Package flows is what layers 13 to 15 have in common about the nodes of programs in continuation passing style.
package flows

import (
	"kiln/api"
	"kiln/vars"
)

// IsAtom tells whether nodes of a kind are atoms.
func IsAtom(k api.FlowKind) bool { return k >= api.JVar && k <= api.JStr }

// IsMove tells whether nodes of a kind are moves of programs with functions within functions.
func IsMove(k api.FlowKind) bool { return k >= api.JTuple && k <= api.JFail && k != api.JFn }

// Parts are the nodes of which a node is made: of a kind that has none its Args say nothing.
func Parts(f api.Flow) []int {
	if f.Kind < api.JTuple || f.Kind > api.JGo {
		return nil
	}
	return f.Args
}

// Variables are what a node of a list has to do with variables. What binds some binds them in all its parts that are no atoms: in a node without form, too, where atoms stand in the places of functions and moves.
func Variables(l []api.Flow, i int) vars.Node {
	f := l[i]
	switch f.Kind {
	case api.JVar:
		return vars.Node{Has: []int{f.N}}
	case api.JTuple, api.JCon, api.JField, api.JPrim:
		return binding([]int{f.N}, l, i)
	case api.JFix, api.JFn:
		return binding(f.Vars, l, i)
	}
	return vars.Node{Out: Parts(f)}
}

// binding is a node that binds some variables.
func binding(binds []int, l []api.Flow, i int) vars.Node {
	n := vars.Node{Binds: binds}
	for _, a := range l[i].Args {
		if a >= 0 && a < i && IsAtom(l[a].Kind) {
			n.Out = append(n.Out, a)
		} else {
			n.In = append(n.In, a)
		}
	}
	return n
}
