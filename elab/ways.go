package elab

import "kiln/api"

// ways are what becomes of each kind of node; of all but declarations the type is answered.
type ways struct {
	tys, pats, exps map[api.NodeKind]func(*walker, int) int
	decs            map[api.NodeKind]func(*walker, int)
}

func newWays() ways { return ways{tyWays(), patWays(), expWays(), decWays()} }

func tyWays() map[api.NodeKind]func(*walker, int) int {
	return map[api.NodeKind]func(*walker, int) int{
		api.TVar:   (*walker).tyVariable,
		api.TCon:   (*walker).tyCon,
		api.TRec:   (*walker).tyRec,
		api.TArrow: (*walker).tyArrow,
	}
}

func patWays() map[api.NodeKind]func(*walker, int) int {
	return map[api.NodeKind]func(*walker, int) int{
		api.NInt:    (*walker).intConstant,
		api.NString: (*walker).stringConstant,
		api.NChar:   (*walker).charConstant,
		api.PWild:   (*walker).variable,
		api.PName:   (*walker).patName,
		api.PApp:    (*walker).patApp,
		api.PRecord: (*walker).patRecord,
		api.PTyped:  (*walker).patTyped,
		api.PAs:     (*walker).patAs,
	}
}

func expWays() map[api.NodeKind]func(*walker, int) int {
	return map[api.NodeKind]func(*walker, int) int{
		api.NInt:    (*walker).intConstant,
		api.NReal:   (*walker).realConstant,
		api.NString: (*walker).stringConstant,
		api.NChar:   (*walker).charConstant,
		api.EName:   (*walker).expName,
		api.ERecord: (*walker).expRecord,
		api.ELet:    (*walker).expLet,
		api.EApp:    (*walker).expApp,
		api.ETyped:  (*walker).expTyped,
		api.EHandle: (*walker).expHandle,
		api.ERaise:  (*walker).expRaise,
		api.EFn:     (*walker).expFn,
	}
}

func decWays() map[api.NodeKind]func(*walker, int) {
	return map[api.NodeKind]func(*walker, int){
		api.DVal:   (*walker).decVal,
		api.DRec:   (*walker).decRec,
		api.DType:  (*walker).decType,
		api.XAlias: (*walker).decType,
		api.DData:  (*walker).decData,
		api.XData:  (*walker).decData,
		api.DCopy:  (*walker).decCopy,
		api.DExn:   (*walker).decExn,
		api.DLocal: (*walker).decLocal,
		api.DOpen:  (*walker).decOpen,
		api.DStr:   (*walker).decModule,
		api.DSig:   (*walker).decModule,
		api.DFct:   (*walker).decModule,
	}
}

// isDec tells whether nodes of a kind are declarations.
func isDec(k api.NodeKind) bool { return decWays()[k] != nil }

// isTy tells whether nodes of a kind are types.
func isTy(k api.NodeKind) bool { return tyWays()[k] != nil }

func (w *walker) ty(i int) int {
	w.count(i)
	if w.standing[i].again {
		return w.tyAgain(i)
	}
	return w.tys[w.nodes[i].Kind](w, i)
}

func (w *walker) pat(i int) int {
	w.count(i)
	return w.pats[w.nodes[i].Kind](w, i)
}

func (w *walker) exp(i int) int {
	w.count(i)
	return w.exps[w.nodes[i].Kind](w, i)
}

func (w *walker) dec(i int) {
	w.count(i)
	w.decs[w.nodes[i].Kind](w, i)
}
