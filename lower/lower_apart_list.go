package lower

import "kiln/api"

// A list of the program is the int 0, or a tuple: a text, where in it the list goes on, and a function that answers what comes behind the text. Of an element the text has which of the items it names, as two bytes, and the place of a field, as one.

// element is an element of a list.
type element struct{ item, place int }

const (
	elementSize = 3
	mostItems   = 1 << 16 // each is several nodes, so there is no room for more anyway
	isBound     = 1       // the place of an element that stands for a variable that is bound
)

// bytes are an element in a text.
func (x element) bytes() []byte {
	return []byte{byte(x.item >> 8), byte(x.item), byte(x.place)}
}

// use is what a node is in a list.
type use struct {
	node int
	as   api.NodeKind // of the node that has the list
}

// list is a list of elements.
func (a *apart) list(l []element) int {
	const most = api.MaxString / elementSize
	at := a.zero
	for len(l) > 0 {
		from := (len(l) - 1) / most * most
		var text []byte
		for _, x := range l[from:] {
			text = append(text, x.bytes()...)
		}
		at = a.tuple(a.text(string(text)), a.zero, a.fn(ignored, at))
		l = l[:from]
	}
	return at
}

// listOf is a list of nodes, which are lowered one by one.
func (a *apart) listOf(as api.NodeKind, kids []int, lower func(i int) int) int {
	var l []element
	for _, k := range kids {
		l = append(l, element{item: a.item(use{k, as}, lower)})
	}
	return a.list(l)
}

// item is the number of what is made of a node.
func (a *apart) item(u use, lower func(i int) int) int {
	n, ok := a.listed[u]
	if !ok {
		at := lower(u.node)
		n = len(a.items)
		if n == mostItems {
			panic(full{})
		}
		a.listed[u] = n
		a.items = append(a.items, at)
	}
	return n
}

// call applies a function to several things.
func (a *apart) call(function int, args ...int) int { return a.apply(a.of(function), a.tuple(args...)) }

// goingAlong has the functions around what is handed on that go along lists.
func (a *apart) goingAlong(do int) int {
	functions := []int{a.naming(), a.placing(), a.behind(), a.taking(), a.declaring(), a.finding(), a.filling(), a.matching(), a.gathering(), a.binding()}
	if a.renews {
		functions = append(functions, a.fn(argument, a.renewing(a.given(0), a.levels, 0)))
	}
	var vars []int
	for i := range functions {
		vars = append(vars, named+i)
	}
	return a.put(api.Term{Kind: api.LFix, Vars: vars, Args: append(functions, do)})
}

// given is what the function that is written is applied to, or a field of it.
func (a *apart) given(n int) int { return a.field(n, a.of(argument)) }

func (a *apart) plus(x, y int) int { return a.prim(a.prims[prim{"+", api.ConInt}], x, y) }

// byteOf is a byte of the first element of the list that is given.
func (a *apart) byteOf(n int) int {
	return a.do("sub", a.given(0), a.plus(a.given(1), a.int(int64(n))))
}

// naming answers what the first element of a list names.
func (a *apart) naming() int {
	var keys []api.Key
	var rows []int
	for from := 0; from < len(a.items); from += 1 << 8 {
		l := a.items[from:min(from+1<<8, len(a.items))]
		var own []api.Key
		for k := range l {
			own = append(own, api.Key{Kind: api.KeyInt, Int: int64(k)})
		}
		keys = append(keys, api.Key{Kind: api.KeyInt, Int: int64(from >> 8)})
		rows = append(rows, a.choose(a.byteOf(1), own, l...))
	}
	return a.fn(argument, a.choose(a.byteOf(0), keys, rows...))
}

// placing answers the place that the first element of a list has.
func (a *apart) placing() int { return a.fn(argument, a.byteOf(elementSize-1)) }

// behind answers the list behind the first element of a list.
func (a *apart) behind() int {
	next := a.plus(a.given(1), a.int(elementSize))
	ends := a.do("=", next, a.do("size", a.given(0)))
	return a.fn(argument, a.ifZero(ends, a.tuple(a.given(0), next, a.given(2)), a.apply(a.given(2), a.zero)))
}

// taking answers a field of a record: of it, and a place.
func (a *apart) taking() int {
	var keys []api.Key
	var fields []int
	for place, is := range a.asks {
		if is {
			keys = append(keys, api.Key{Kind: api.KeyInt, Int: int64(place)})
			fields = append(fields, a.field(place, a.given(0)))
		}
	}
	return a.fn(argument, a.choose(a.given(1), keys, append(fields, a.stuck())...))
}

// first is what the first element of the list names that is given as field n; second and so on.
func (a *apart) first(n int) int { return a.apply(a.of(named), a.given(n)) }
func (a *apart) rest(n int) int  { return a.apply(a.of(rest), a.given(n)) }
func (a *apart) where(n int) int { return a.apply(a.of(placed), a.given(n)) }

// declaring answers the environment behind declarations: of one, and a list of them.
func (a *apart) declaring() int {
	next := a.call(declared, a.apply(a.first(1), a.given(0)), a.rest(1))
	return a.fn(argument, a.ifZero(a.given(1), a.given(0), next))
}

// finding answers what the first rule does that does something: of what rules are asked, and a list of them.
func (a *apart) finding() int {
	next := a.ifZero(a.of(result), a.call(found, a.given(0), a.rest(1)), a.of(result))
	return a.fn(argument, a.ifZero(a.given(1), a.zero, a.let(result, a.apply(a.first(1), a.given(0)))(next)))
}

// filling puts values to their places: of an environment, an array, and a list of expressions.
func (a *apart) filling() int {
	put := a.do("set", a.given(1), a.where(2), a.apply(a.first(2), a.given(0)))
	next := a.ahead(put)(a.call(filled, a.given(0), a.given(1), a.rest(2)))
	return a.fn(argument, a.ifZero(a.given(2), a.zero, next))
}

// matching answers the environment behind the patterns of a record: of one, the record, and a list of them; or the int 0.
func (a *apart) matching() int {
	field := a.call(taken, a.given(1), a.where(2))
	next := a.ifZero(a.of(result), a.zero, a.call(matched, a.of(result), a.given(1), a.rest(2)))
	do := a.let(result, a.apply(a.first(2), a.tuple(a.given(0), field)))(next)
	return a.fn(argument, a.ifZero(a.given(2), a.given(0), do))
}

// gathering answers the values that are bound, each in a tuple with those behind it: of an environment, and a list of bindings.
func (a *apart) gathering() int {
	value := a.apply(a.field(0, a.first(1)), a.given(0))
	next := a.tuple(value, a.call(gathered, a.given(0), a.rest(1)))
	return a.fn(argument, a.ifZero(a.given(1), a.zero, next))
}

// binding answers the environment behind bindings: of one, a list of them, and their values; or the int 0.
func (a *apart) binding() int {
	value := a.field(0, a.given(2))
	next := a.ifZero(a.of(result), a.zero, a.call(boundAll, a.of(result), a.rest(1), a.field(1, a.given(2))))
	do := a.let(result, a.apply(a.field(1, a.first(1)), a.tuple(a.given(0), value)))(next)
	return a.fn(argument, a.ifZero(a.given(1), a.given(0), do))
}

// renewing answers what of an environment is at so many levels from a place on, when much is bound: of one, that from which values are made, and a text that has an element for each place.
func (a *apart) renewing(old, levels, place int) int {
	if place >= len(a.places) {
		return old
	}
	if levels > 0 {
		var fields []int
		for i := range fan {
			fields = append(fields, a.renewing(a.field(i, old), levels-1, place+i<<(bits*(levels-1))))
		}
		return a.tuple(fields...)
	}
	at := elementSize * place
	binding := a.apply(a.of(named), a.tuple(a.given(2), a.int(int64(at))))
	bound := a.do("sub", a.given(2), a.int(int64(at+elementSize-1)))
	return a.ifZero(bound, old, a.tuple(a.apply(a.field(0, binding), a.given(1))))
}
