package lower

import "kiln/api"

// structure is a structure's node.
func (l *lowerer) structure(i int) int {
	kids := l.kids(i)
	switch l.Nodes[i].Kind {
	case api.SStruct:
		return l.decs(kids[0])(l.made(l.Parts[i], l.at))
	case api.SLet:
		return l.decs(kids[0])(l.structure(kids[1]))
	case api.STrans, api.SOpaque:
		return l.madeOf(l.Parts[i], l.structure(kids[0]))
	case api.SApp:
		return l.apply(l.at(l.Notes[i].At), l.madeOf(l.Parts[i], l.structure(kids[0])))
	}
	return l.at(l.Notes[i].At)
}
