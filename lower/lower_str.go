package lower

import "kiln/api"

// structure is a structure's node.
func (l *lowerer) structure(i int) int {
	at, ok := l.done[i]
	if !ok {
		at = l.newStructure(i)
		l.done[i] = at
	}
	return at
}

func (l *lowerer) newStructure(i int) int {
	kids := l.kids(i)
	switch l.Nodes[i].Kind {
	case api.SStruct:
		return l.decs(kids[0])(l.made(l.Parts[i], l.at))
	case api.SLet:
		return l.decs(kids[0])(l.structure(kids[1]))
	case api.STrans, api.SOpaque:
		return l.madeOf(i)
	case api.SApp:
		return l.apply(l.at(l.Notes[i].At), l.madeOf(i))
	}
	return l.at(l.Notes[i].At)
}

// madeOf is a structure of a node's parts, out of the one that is its first kid.
func (l *lowerer) madeOf(i int) int {
	from := l.let(whole, l.structure(l.kids(i)[0]))
	return from(l.made(l.Parts[i], func(at api.Access) int { return l.along(l.of(whole), at.Path) }))
}

// made is a structure of parts; at tells what is at an Access.
func (l *lowerer) made(parts []api.Part, at func(api.Access) int) int {
	var fields []int
	for i := range parts {
		fields = append(fields, l.slot(&parts[i], at))
	}
	return l.tuple(fields...)
}

// slot is a field of a structure that is made.
func (l *lowerer) slot(p *api.Part, at func(api.Access) int) int {
	switch {
	case p.Str && len(p.Sub) > 0:
		return l.made(p.Sub, at)
	case p.Str || p.Exn && p.From.Is == api.SExn:
		return at(p.From.At)
	}
	return l.meaning(noteOf(p.From), at)
}
