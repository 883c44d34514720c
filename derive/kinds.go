package derive

import "kiln/api"

// isDerived tells whether a node is none of a bare tree.
func isDerived(n api.Node) bool {
	switch n.Kind {
	case api.ELet:
		return len(n.Kids) > 2
	case api.ESelect, api.ETuple, api.EList, api.ESeq, api.EAnd, api.EOr, api.EIf, api.EWhile, api.ECase,
		api.PTuple, api.PList, api.TTuple,
		api.DFun, api.NFun, api.NClause, api.NPats, api.DFix:
		return true
	}
	return false
}

// questions are what is asked of a node: a bit for each restriction.
type questions uint8

const (
	areFunctions  questions = 1 << iota // of a DRec: names are bound to functions
	areOthers                           // of kids: no name twice
	areAlike                            // of an NFun's clauses
	areOtherCons                        // of datatypes: no constructor twice
	areVariables                        // of type variables: none twice, and none that is not ahead
	areOtherSpecs                       // of a signature: no name twice
	mayBeBound                          // of a name
)

// questionsOf is what is asked of a kind of node.
func questionsOf(k api.NodeKind) questions {
	var q questions
	switch k {
	case api.DRec:
		return areFunctions | areOthers
	case api.DData, api.XData:
		q = areOtherCons
		fallthrough
	case api.ERecord, api.PRecord, api.TRec, api.DFun,
		api.DType, api.XType, api.XEq, api.XAlias,
		api.DExn, api.XExn, api.XVal, api.DStr, api.DSig, api.DFct, api.XStr:
		return q | areOthers
	case api.NTybind, api.NDatbind, api.NWhere:
		return areVariables
	case api.GSig:
		return areOtherSpecs
	case api.NFun:
		return areAlike | mayBeBound
	case api.NCon:
		q = areVariables
		fallthrough
	case api.NSame, api.NBind:
		return q | mayBeBound
	}
	return q
}

// space is a sort of names, or some of them: a bit for each. Names of two sorts never are the same.
type space uint8

const (
	values space = 1 << iota
	types
	structures
)

// spaceOf is the sort of names that a kind of specification has.
func spaceOf(spec api.NodeKind) space {
	switch spec {
	case api.XType, api.XEq, api.XAlias, api.XData:
		return types
	case api.XStr:
		return structures
	}
	return values
}

// isBarred tells whether a node of this kind may not bind the name.
func isBarred(name string, k api.NodeKind) bool {
	switch name {
	case "true", "false", "nil", "::", "ref":
		return true
	case "it":
		return k == api.NCon || k == api.NSame
	}
	return false
}
