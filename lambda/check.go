package lambda

import (
	"slices"

	"kiln/api"
	"kiln/fix"
	"kiln/str"
)

// parts are the nodes of which a node is made: of a kind that has none its Args say nothing.
func parts(t api.Term) []int {
	if t.Kind < api.LTuple || t.Kind > api.LPrim {
		return nil
	}
	return t.Args
}

// isFormed tells whether a node whose parts are lower has the form of its kind; primitives are asked apart.
func isFormed(l []api.Term, t api.Term) bool {
	args := len(t.Args)
	switch t.Kind {
	case api.LVar:
		return t.N >= 0
	case api.LInt:
		return fix.Right(t.Int)
	case api.LStr:
		return str.Right(t.Text)
	case api.LReal, api.LPrim:
		return true
	case api.LTuple:
		return args >= 1 && args <= api.MaxFields
	case api.LField, api.LCon, api.LFn:
		return t.N >= 0 && args == 1
	case api.LRaise:
		return args == 1
	case api.LApp:
		return args == 2
	case api.LLet, api.LHandle:
		return t.N >= 0 && args == 2
	case api.LFix:
		return isFix(l, t)
	case api.LCase:
		keys := len(t.Keys)
		return (args == keys+1 || args == keys+2) && !slices.ContainsFunc(t.Keys, isStrange)
	}
	return false
}

// isFix tells whether a node has a function for each of its variables, and a body.
func isFix(l []api.Term, t api.Term) bool {
	if len(t.Vars) == 0 || len(t.Args) != len(t.Vars)+1 {
		return false
	}
	for i, v := range t.Vars {
		if v < 0 || l[t.Args[i]].Kind != api.LFn {
			return false
		}
	}
	return true
}

// isStrange tells whether a key is none.
func isStrange(k api.Key) bool {
	switch k.Kind {
	case api.KeyInt, api.KeyCon:
		return false
	case api.KeyStr:
		return !str.Right(k.Text)
	}
	return true
}

// isPrim tells whether a node is no primitive, or one that there is, with as many arguments as it takes.
func isPrim(prims []api.Prim, t api.Term) bool {
	return t.Kind != api.LPrim || t.N >= 0 && t.N < len(prims) && len(t.Args) == prims[t.N].Args
}
