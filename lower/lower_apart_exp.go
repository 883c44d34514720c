package lower

import "kiln/api"

// exp is an expression's node.
func (a *apart) exp(i int) int { return a.once(a.body(i), a.newExp) }

func (a *apart) newExp(i int) int {
	kids := a.kids(i)
	switch a.Nodes[i].Kind {
	case api.EName:
		return a.meaning(a.Notes[i], a.at)
	case api.ERecord:
		return a.record(i)
	case api.EApp:
		return a.apply(a.exp(kids[0]), a.exp(kids[1]))
	case api.EFn:
		return a.fn(asked, a.rules(kids, a.raiseCode(api.XMatch)))
	case api.ELet:
		return a.scoped(a.decs(kids[0]), a.exp(kids[1]))
	case api.ERaise:
		return a.raise(a.exp(kids[0]))
	case api.EHandle:
		handler := a.rules(kids[1:], a.raise(a.of(asked)))
		return a.put(api.Term{Kind: api.LHandle, N: asked, Args: []int{a.exp(kids[0]), handler}})
	}
	return a.say(a.constant(i))
}

// record is a record: an array is filled, since the fields may stand in another order than they have in the tuple.
func (a *apart) record(i int) int {
	kids := a.kids(i)
	if len(kids) == 0 {
		return a.zero
	}
	var list []element
	var fields []int
	for k, place := range a.recordPlaces(i) {
		n := a.item(use{kids[k], api.ERecord}, func(k int) int { return a.fn(environment, a.exp(a.held(k))) })
		list = append(list, element{n, place})
		fields = append(fields, a.cellOf(k))
	}
	fill := a.call(filled, a.of(environment), a.of(cells), a.list(list))
	array := a.let(cells, a.do("array", a.int(int64(len(kids))), a.zero))
	return array(a.ahead(fill)(a.tuple(fields...)))
}

// cellOf is what stands at a place of an array.
func (a *apart) cellOf(place int) int {
	at, ok := a.got[place]
	if !ok {
		at = a.do("get", a.of(cells), a.int(int64(place)))
		a.got[place] = at
	}
	return at
}

// structure is a structure's node.
func (a *apart) structure(i int) int { return a.once(i, a.newStructure) }

func (a *apart) newStructure(i int) int {
	kids := a.kids(i)
	switch a.Nodes[i].Kind {
	case api.SStruct:
		return a.scoped(a.decs(kids[0]), a.made(a.Parts[i], a.at))
	case api.SLet:
		return a.scoped(a.decs(kids[0]), a.structure(kids[1]))
	case api.STrans, api.SOpaque:
		return a.madeOf(a.Parts[i], a.structure(kids[0]))
	case api.SApp:
		return a.apply(a.at(a.Notes[i].At), a.madeOf(a.Parts[i], a.structure(kids[0])))
	}
	return a.at(a.Notes[i].At)
}
