package lower

import "kiln/api"

// decs are the declarations of an NDecs, around what is in their scope.
func (l *lowerer) decs(i int) around {
	var all []around
	for _, k := range l.kids(i) {
		all = append(all, l.dec(k))
	}
	return inside(all)
}

// dec is a declaration around what is in its scope.
func (l *lowerer) dec(i int) around {
	kids := l.kids(i)
	switch l.Nodes[i].Kind {
	case api.DVal:
		return l.bindings(kids)
	case api.DRec:
		return l.functions(kids)
	case api.DExn:
		return l.exceptions(kids)
	case api.DLocal:
		return inside([]around{l.decs(kids[0]), l.decs(kids[1])})
	case api.DStr:
		return l.structures(kids)
	case api.DFct:
		return l.functors(kids)
	}
	return inside(nil)
}

// bindings is a DVal: all expressions, then all patterns.
func (l *lowerer) bindings(binds []int) around {
	var list []around
	var all []asking
	for _, k := range binds {
		p, of := l.kids(k)[0], l.exp(l.kids(k)[1])
		if l.tests[p] == 0 && !l.binds[p] {
			list = append(list, l.ahead(of))
			continue
		}
		v := l.nameOf(p)
		list = append(list, l.let(v, of))
		all = append(all, asking{p, v})
	}
	for _, a := range all {
		list = l.pattern(a.pattern, a.of, func() int { return l.raiseCode(api.XBind) }, list)
	}
	return inside(list)
}

// asking is a pattern, and the variable of which it is asked.
type asking struct{ pattern, of int }

// functions is a DRec.
func (l *lowerer) functions(binds []int) around {
	var names, made []int
	for _, k := range binds {
		name, function := l.body(l.kids(k)[0]), l.body(l.kids(k)[1])
		if l.Nodes[function].Kind != api.EFn {
			return l.ahead(l.stuck())
		}
		names = append(names, l.number(l.Notes[name].At.Id))
		made = append(made, l.exp(function))
	}
	return func(body int) int { return l.put(api.Term{Kind: api.LFix, Vars: names, Args: append(made, body)}) }
}

// exceptions is a DExn.
func (l *lowerer) exceptions(names []int) around {
	var list []around
	for _, k := range names {
		if n := l.Nodes[k]; n.Kind == api.NCon {
			list = append(list, l.let(l.number(l.Notes[k].At.Id), l.exnName(n.Text)))
		}
	}
	return inside(list)
}

// structures is a DStr.
func (l *lowerer) structures(named []int) around {
	var list []around
	for _, k := range named {
		list = append(list, l.let(l.number(l.Notes[k].At.Id), l.structure(l.kids(k)[0])))
	}
	return inside(list)
}

// functors is a DFct.
func (l *lowerer) functors(named []int) around {
	var list []around
	for _, k := range named {
		kids := l.kids(k)
		made := l.fn(l.number(l.Notes[kids[0]].At.Id), l.structure(kids[1]))
		list = append(list, l.let(l.number(l.Notes[k].At.Id), made))
	}
	return inside(list)
}
