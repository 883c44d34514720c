package lower

import (
	"iter"
	"slices"

	"kiln/api"
)

// decs are the declarations of an NDecs, around what is in their scope.
func (l *lowerer) decs(i int) around {
	made, ok := l.decsDone[i]
	if !ok {
		made = l.list(l.kids(i))
		l.decsDone[i] = made
	}
	return made
}

// list are declarations, one behind the other. Of one that stands there many times on end only the last time says something to what is in its scope. For those that do nothing steps are counted, if they are many.
func (l *lowerer) list(decs []int) around {
	var all []around
	idle := 0
	for i, times := range runs(decs) {
		if l.isIdle(i) {
			idle += times
			continue
		}
		made := l.dec(i)
		if times > 1 {
			all = append(all, l.ahead(l.repeat(made(l.zero), times-1)))
		}
		all = append(all, made)
	}
	if idle >= manyIdle {
		all = append(all, l.ahead(l.repeat(l.zero, idle/manyIdle)))
	}
	return inside(all)
}

// manyIdle is how many declarations that do nothing, each of which is a step, go together: no more than what a program may be faster by.
const manyIdle = 64

// isIdle tells whether a declaration does nothing.
func (l *lowerer) isIdle(i int) bool {
	switch l.Nodes[i].Kind {
	case api.DVal, api.DLocal:
		return false
	}
	return !l.binds[i]
}

// runs are the numbers of a list, each with how often it stands there on end.
func runs(l []int) iter.Seq2[int, int] {
	return func(yield func(int, int) bool) {
		for len(l) > 0 {
			times := slices.IndexFunc(l, func(i int) bool { return i != l[0] })
			if times < 0 {
				times = len(l)
			}
			if !yield(l[0], times) {
				return
			}
			l = l[times:]
		}
	}
}

// dec is a declaration around what is in its scope.
func (l *lowerer) dec(i int) around {
	made, ok := l.decsDone[i]
	if !ok {
		made = l.newDec(i)
		l.decsDone[i] = made
	}
	return made
}

func (l *lowerer) newDec(i int) around {
	switch l.Nodes[i].Kind {
	case api.DVal:
		return l.bindings(i)
	case api.DRec:
		return l.functions(i)
	case api.DExn:
		return l.exceptions(i)
	case api.DLocal:
		return l.local(i)
	case api.DStr:
		return l.structures(i)
	}
	return l.functors(i)
}

// bindings is a DVal: all expressions, then all patterns.
func (l *lowerer) bindings(i int) around {
	var list []around
	var asked []asking
	for k, times := range runs(l.kids(i)) {
		p, of := l.kids(k)[0], l.exp(l.kids(k)[1])
		if l.tests[p] == 0 && !l.binds[p] {
			list = append(list, l.ahead(l.repeat(of, times)))
			continue
		}
		for range times {
			v := l.nameOf(p)
			list = append(list, l.let(v, of))
			asked = append(asked, asking{p, v})
		}
	}
	for _, a := range asked {
		list = l.pattern(a.pattern, a.of, func() int { return l.raiseCode(api.XBind) }, list)
	}
	return inside(list)
}

// asking is a pattern, and the variable of which it is asked.
type asking struct{ pattern, of int }

// functions is a DRec.
func (l *lowerer) functions(i int) around {
	var names, made []int
	for _, k := range l.kids(i) {
		name, function := l.body(l.kids(k)[0]), l.body(l.kids(k)[1])
		if l.Nodes[function].Kind != api.EFn {
			return l.ahead(l.stuck())
		}
		names = append(names, l.number(l.Notes[name].At.Id))
		made = append(made, l.exp(function))
	}
	return func(body int) int {
		return l.put(api.Term{Kind: api.LFix, Vars: slices.Clone(names), Args: append(slices.Clone(made), body)})
	}
}

// exceptions is a DExn.
func (l *lowerer) exceptions(i int) around {
	var list []around
	for _, k := range l.kids(i) {
		if n := l.Nodes[k]; n.Kind == api.NCon {
			list = append(list, l.let(l.number(l.Notes[k].At.Id), l.exnName(n.Text)))
		}
	}
	return inside(list)
}

// local is a DLocal.
func (l *lowerer) local(i int) around {
	kids := l.kids(i)
	first, second := l.decs(kids[0]), l.decs(kids[1])
	if slices.Equal(l.kids(kids[0]), l.kids(kids[1])) {
		first = l.ahead(first(l.zero))
	}
	if l.binds[i] {
		return inside([]around{first, second})
	}
	return l.ahead(first(second(l.zero)))
}

// structures is a DStr.
func (l *lowerer) structures(i int) around {
	var list []around
	for _, k := range l.kids(i) {
		list = append(list, l.let(l.number(l.Notes[k].At.Id), l.structure(l.kids(k)[0])))
	}
	return inside(list)
}

// functors is a DFct.
func (l *lowerer) functors(i int) around {
	var list []around
	for _, k := range l.kids(i) {
		kids := l.kids(k)
		made := l.fn(l.number(l.Notes[kids[0]].At.Id), l.structure(kids[1]))
		list = append(list, l.let(l.number(l.Notes[k].At.Id), made))
	}
	return inside(list)
}
