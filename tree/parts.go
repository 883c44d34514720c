package tree

import "kiln/api"

// partsOf is what kids a kind of node has, in order; and whether it is a kind of this layer.
func partsOf(k api.NodeKind) ([]part, bool) {
	for _, area := range [4]func(api.NodeKind) ([]part, bool){partsOfExpression, partsOfPattern, partsOfDeclaration, partsOfModule} {
		if parts, ok := area(k); ok {
			return parts, true
		}
	}
	return nil, false
}

func partsOfExpression(k api.NodeKind) ([]part, bool) {
	switch k {
	case api.NInt, api.NReal, api.NString, api.NChar, api.EName, api.ESelect:
		return nil, true
	case api.ERecord:
		return []part{many(api.NField)}, true
	case api.ETuple, api.EList:
		return []part{many(expNode)}, true
	case api.ESeq:
		return []part{two(expNode)}, true
	case api.ELet:
		return []part{one(api.NDecs), some(expNode)}, true
	case api.EApp, api.EAnd, api.EOr, api.EWhile:
		return []part{one(expNode), one(expNode)}, true
	case api.ETyped:
		return []part{one(expNode), one(tyNode)}, true
	case api.EHandle, api.ECase:
		return []part{one(expNode), some(api.NRule)}, true
	case api.ERaise:
		return []part{one(expNode)}, true
	case api.EIf:
		return []part{one(expNode), one(expNode), one(expNode)}, true
	case api.EFn:
		return []part{some(api.NRule)}, true
	case api.NRule:
		return []part{one(patNode), one(expNode)}, true
	case api.NField:
		return []part{one(heldNode)}, true
	}
	return nil, false
}

// partsOfPattern is partsOf patterns and types.
func partsOfPattern(k api.NodeKind) ([]part, bool) {
	switch k {
	case api.PWild, api.PName, api.PDots, api.TVar:
		return nil, true
	case api.PApp:
		return []part{one(api.PName), one(patNode)}, true
	case api.PTuple, api.PList:
		return []part{many(patNode)}, true
	case api.PRecord:
		return []part{many(api.NField), maybe(api.PDots)}, true
	case api.PTyped:
		return []part{one(patNode), one(tyNode)}, true
	case api.PAs:
		return []part{one(patNode)}, true
	case api.TCon:
		return []part{many(tyNode)}, true
	case api.TTuple:
		return []part{two(tyNode)}, true
	case api.TRec:
		return []part{many(api.NField)}, true
	case api.TArrow:
		return []part{one(tyNode), one(tyNode)}, true
	}
	return nil, false
}

func partsOfDeclaration(k api.NodeKind) ([]part, bool) {
	switch k {
	case api.NDecs:
		return []part{many(decNode)}, true
	case api.DVal, api.DRec:
		return []part{some(api.NBind)}, true
	case api.NBind:
		return []part{one(patNode), one(expNode)}, true
	case api.DFun:
		return []part{some(api.NFun)}, true
	case api.NFun:
		return []part{some(api.NClause)}, true
	case api.NClause:
		return []part{one(api.NPats), one(expNode), maybe(tyNode)}, true
	case api.NPats:
		return []part{some(patNode)}, true
	case api.DType, api.XAlias:
		return []part{some(api.NTybind)}, true
	case api.NTybind, api.NWhere:
		return []part{many(api.TVar), one(tyNode)}, true
	case api.DData, api.XData:
		return []part{some(api.NDatbind)}, true
	case api.NDatbind:
		return []part{many(api.TVar), some(api.NCon)}, true
	case api.NCon:
		return []part{many(tyNode)}, true
	case api.DCopy:
		return []part{one(api.TCon)}, true
	case api.DExn:
		return []part{some(exnNode)}, true
	case api.NSame:
		return []part{one(api.EName)}, true
	case api.DLocal:
		return []part{one(api.NDecs), one(api.NDecs)}, true
	case api.DOpen:
		return []part{some(api.SName)}, true
	case api.DFix:
		return []part{some(api.PName)}, true
	}
	return nil, false
}

// partsOfModule is partsOf structures, signatures, specifications, and their declarations.
func partsOfModule(k api.NodeKind) ([]part, bool) {
	switch k {
	case api.SName, api.GName:
		return nil, true
	case api.DStr:
		return []part{some(api.NStr)}, true
	case api.DSig, api.XStr:
		return []part{some(api.NSig)}, true
	case api.DFct:
		return []part{some(api.NFct)}, true
	case api.NStr, api.SApp:
		return []part{one(strNode)}, true
	case api.NSig:
		return []part{one(sigNode)}, true
	case api.NFct:
		return []part{one(api.NSig), one(strNode)}, true
	case api.SStruct:
		return []part{one(api.NDecs)}, true
	case api.STrans, api.SOpaque:
		return []part{one(strNode), one(sigNode)}, true
	case api.SLet:
		return []part{one(api.NDecs), one(strNode)}, true
	case api.GSig:
		return []part{many(specNode)}, true
	case api.GWhere:
		return []part{one(sigNode), one(api.NWhere)}, true
	case api.XVal, api.XType, api.XEq, api.XExn:
		return []part{some(api.NCon)}, true
	}
	return nil, false
}
