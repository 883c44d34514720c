package lower

import (
	"slices"

	"kiln/api"
)

// lowerer lowers a unit of which each node stands at one place.
type lowerer struct {
	*writer
	*unit
	facts
}

// exp is an expression's node.
func (l *lowerer) exp(i int) int {
	kids := l.kids(i)
	switch l.Nodes[i].Kind {
	case api.EName:
		return l.meaning(l.Notes[i], l.at)
	case api.ERecord:
		return l.record(i)
	case api.EApp:
		return l.application(l.body(kids[0]), kids[1])
	case api.ETyped:
		return l.exp(l.body(i))
	case api.EFn:
		v := l.parameter(kids)
		return l.fn(v, l.matched(v, kids))
	case api.ELet:
		return l.decs(kids[0])(l.exp(kids[1]))
	case api.ERaise:
		return l.raise(l.exp(kids[0]))
	case api.EHandle:
		return l.handle(l.exp(kids[0]), kids[1:])
	}
	return l.say(l.constant(i))
}

// at is what is at an Access.
func (l *lowerer) at(a api.Access) int { return l.along(l.boundTo(a.Id), a.Path) }

// record is a record: its fields in the order in which they stand, then the tuple.
func (l *lowerer) record(i int) int {
	kids, places := l.kids(i), l.recordPlaces(i)
	fields := make([]int, len(kids))
	inOrder := slices.IsSorted(places)
	var list []around
	for k, place := range places {
		fields[place] = l.exp(l.held(kids[k]))
		if !inOrder {
			v := l.fresh()
			list = append(list, l.let(v, fields[place]))
			fields[place] = l.of(v)
		}
	}
	return inside(list)(l.tuple(fields...))
}

// application is an EApp of a function, without types that are said of it, and an argument.
func (l *lowerer) application(function, arg int) int {
	n := l.Notes[function]
	switch l.Nodes[function].Kind {
	case api.EFn:
		rules := l.kids(function)
		v := l.parameter(rules)
		return l.let(v, l.exp(arg))(l.matched(v, rules))
	case api.EName:
		if n.Arg && (n.Is == api.SCon || n.Is == api.SExn) {
			return l.make(n, l.at, func() int { return l.exp(arg) })
		}
		if at, ok := l.prims[prim{n.Name, n.Con}]; ok && n.Is == api.SPrim {
			if args, ok := l.arguments(l.takes[at], l.body(arg)); ok {
				return l.doing(at, args)
			}
		}
	}
	return l.apply(l.exp(function), l.exp(arg))
}

// arguments are the arguments of a primitive that takes so many, if they can be told apart: one, or the fields of a record that stand in order.
func (l *lowerer) arguments(takes, arg int) ([]int, bool) {
	if takes == 1 {
		return []int{l.exp(arg)}, true
	}
	kids := l.kids(arg)
	if l.Nodes[arg].Kind != api.ERecord || len(kids) != takes || !slices.IsSorted(l.recordPlaces(arg)) {
		return nil, false
	}
	var args []int
	for _, k := range kids {
		args = append(args, l.exp(l.held(k)))
	}
	return args, true
}

// parameter is a variable for that which rules are asked of.
func (l *lowerer) parameter(rules []int) int { return l.nameOf(l.kids(rules[0])[0]) }

// matched does what rules say of the value of a variable; if it matches none, Match is raised.
func (l *lowerer) matched(v int, rules []int) int {
	return l.rules(v, rules, func() int { return l.raiseCode(api.XMatch) })
}

// handle is a node around which rules say what is done with what is raised; of none it is raised again.
func (l *lowerer) handle(of int, rules []int) int {
	v := l.parameter(rules)
	handler := l.rules(v, rules, func() int { return l.raise(l.of(v)) })
	return l.put(api.Term{Kind: api.LHandle, N: v, Args: []int{of, handler}})
}
