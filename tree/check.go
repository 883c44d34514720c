package tree

import (
	"math"

	"kiln/api"
)

// Sorts of nodes, where a kid may be of more than one kind. (No node's kind is below 0.)
const (
	expNode api.NodeKind = -1 - iota
	patNode
	tyNode
	decNode
	strNode
	sigNode
	specNode
	heldNode // what an NField has
	exnNode  // what a DExn has
)

// fits tells whether a kind is the one that is wanted, or of that sort.
func fits(wanted, k api.NodeKind) bool {
	switch wanted {
	case expNode:
		return k >= api.NInt && k <= api.NChar || k >= api.EName && k <= api.EFn
	case patNode:
		return k == api.NInt || k == api.NString || k == api.NChar || k >= api.PWild && k <= api.PRecord || k >= api.PList && k <= api.PAs
	case tyNode:
		return k >= api.TVar && k <= api.TArrow
	case decNode:
		return isDeclaration(k)
	case strNode:
		return k >= api.SStruct && k <= api.SLet
	case sigNode:
		return k >= api.GSig && k <= api.GWhere
	case specNode:
		return k >= api.XVal && k <= api.XStr
	case heldNode:
		return fits(expNode, k) || fits(patNode, k) || fits(tyNode, k)
	case exnNode:
		return k == api.NCon || k == api.NSame
	}
	return k == wanted
}

func isDeclaration(k api.NodeKind) bool {
	switch k {
	case api.DVal, api.DRec, api.DFun, api.DType, api.DData, api.DCopy, api.DExn, api.DLocal, api.DOpen, api.DFix, api.DStr, api.DSig, api.DFct:
		return true
	}
	return false
}

// sound tells whether a node is one of this layer, if all nodes below it are.
func sound(l []api.Node, i int) bool {
	n := l[i]
	for _, k := range n.Kids {
		if !lower(k, i) {
			return false
		}
	}
	parts, ok := partsOf(n.Kind)
	return ok && match(l, n.Kids, parts) && suits(l, n)
}

// match tells whether kids are these parts, one behind the other: each takes what it can, and leaves those behind it what they need.
func match(l []api.Node, kids []int, parts []part) bool {
	need := 0
	for _, s := range parts {
		need += s.least
	}
	for _, s := range parts {
		need -= s.least
		n := 0
		for n < s.most && len(kids) > need && fits(s.sort, l[kids[0]].Kind) {
			kids = kids[1:]
			n++
		}
		if n < s.least {
			return false
		}
	}
	return len(kids) == 0
}

// suits asks of a node what its parts do not say.
func suits(l []api.Node, n api.Node) bool {
	switch n.Kind {
	case api.ETuple, api.PTuple:
		return len(n.Kids) != 1
	case api.ERecord:
		return kidsHold(l, n, expNode)
	case api.PRecord:
		return kidsHold(l, n, patNode)
	case api.TRec:
		return kidsHold(l, n, tyNode)
	case api.XType, api.XEq:
		return kidsHold(l, n, api.TVar)
	case api.XVal:
		return kidsHave(l, n, 1, 1)
	case api.NDatbind, api.DExn, api.XExn:
		return kidsHave(l, n, 0, 1)
	case api.DCopy:
		return kidsHave(l, n, 0, 0)
	}
	return true
}

// kidsHold tells whether all that a node's kids have as kids is of the sort that is wanted.
func kidsHold(l []api.Node, n api.Node, wanted api.NodeKind) bool {
	for _, k := range n.Kids {
		for _, below := range l[k].Kids {
			if !fits(wanted, l[below].Kind) {
				return false
			}
		}
	}
	return true
}

// kidsHave tells whether each of a node's kids has at least and at most so many kids.
func kidsHave(l []api.Node, n api.Node, least, most int) bool {
	for _, k := range n.Kids {
		if size := len(l[k].Kids); size < least || size > most {
			return false
		}
	}
	return true
}

// part is kids of one sort that stand side by side in a node: at least and at most so many.
type part struct {
	sort        api.NodeKind
	least, most int
}

func one(k api.NodeKind) part   { return part{k, 1, 1} }
func maybe(k api.NodeKind) part { return part{k, 0, 1} }
func many(k api.NodeKind) part  { return part{k, 0, math.MaxInt} }
func some(k api.NodeKind) part  { return part{k, 1, math.MaxInt} }
func two(k api.NodeKind) part   { return part{k, 2, math.MaxInt} }
