package lower

import (
	"slices"

	"kiln/api"
)

// decs is the environment behind the declarations of an NDecs.
func (a *apart) decs(i int) int { return a.once(i, a.newDecs) }

func (a *apart) newDecs(i int) int {
	list := a.listOf(api.NDecs, a.kids(i), func(k int) int { return a.fn(environment, a.dec(k)) })
	return a.call(declared, a.of(environment), list)
}

// dec is the environment behind a declaration.
func (a *apart) dec(i int) int {
	kids := a.kids(i)
	switch k := a.Nodes[i].Kind; k {
	case api.DVal:
		bind := a.bindings(a.of(environment), a.listOf(k, kids, a.bindingOf))
		return a.let(result, bind)(a.ifZero(a.of(result), a.raiseCode(api.XBind), a.of(result)))
	case api.DRec:
		return a.functions(kids)
	case api.DExn:
		names := slices.DeleteFunc(unlike(kids), func(k int) bool { return a.Nodes[k].Kind != api.NCon })
		return a.together(a.of(environment), k, names, a.exception)
	case api.DLocal:
		return a.scoped(a.decs(kids[0]), a.decs(kids[1]))
	case api.DStr:
		return a.bindings(a.of(environment), a.listOf(k, kids, a.structureOf))
	case api.DFct:
		return a.together(a.of(environment), k, unlike(kids), a.functor)
	}
	return a.of(environment)
}

// bindings is the environment behind a list of bindings; or the int 0, if a value matches its pattern not. A binding is a tuple of two functions: one of from, that has the value, and one of an environment and the value, that has the environment behind the binding.
func (a *apart) bindings(from, list int) int {
	return a.call(boundAll, a.of(environment), list, a.call(gathered, from, list))
}

// few is how many times as many variables there are, where a list is a short one.
const few = 8

// together is the environment behind a list of bindings that are one step. So if they are many they are not bound one by one, which takes more steps than there may be: the environment is made anew, by a text that has an element for each of its places.
func (a *apart) together(from int, as api.NodeKind, kids []int, lower func(i int) int) int {
	if len(kids)*few < len(a.places) {
		return a.bindings(from, a.listOf(as, kids, lower))
	}
	if elementSize*len(a.places) > api.MaxString {
		panic(full{})
	}
	text := make([]byte, elementSize*len(a.places))
	for _, k := range kids {
		if place, ok := a.places[a.variable(k)]; ok {
			copy(text[elementSize*place:], element{a.item(use{k, as}, lower), isBound}.bytes())
		}
	}
	a.renews = true
	return a.call(renewed, a.of(environment), from, a.text(string(text)))
}

// variable is the variable that a binding binds.
func (a *apart) variable(i int) int {
	if a.Nodes[i].Kind == api.NBind {
		i = a.body(a.kids(i)[0])
	}
	return a.Notes[i].At.Id
}

func (a *apart) bindingOf(i int) int {
	kids := a.kids(i)
	return a.tuple(a.fn(environment, a.exp(kids[1])), a.ofBoth(a.pattern(kids[0])))
}

// functions is the environment behind a DRec. Its functions find it in a cell, since it is made after them. (Of equal variables the first one counts.)
func (a *apart) functions(kids []int) int {
	turned := slices.Clone(kids)
	slices.Reverse(turned)
	bind := a.together(a.of(cells), api.DRec, unlike(turned), a.function)
	put := a.ahead(a.do(":=", a.of(cells), a.of(result)))
	return a.let(cells, a.do("ref", a.zero))(a.let(result, bind)(put(a.of(result))))
}

func (a *apart) function(i int) int {
	name, function := a.body(a.kids(i)[0]), a.body(a.kids(i)[1])
	if a.Nodes[function].Kind != api.EFn {
		return a.stuck()
	}
	do := a.fn(asked, a.scoped(a.do("!", a.of(cells)), a.apply(a.exp(function), a.of(asked))))
	return a.tuple(a.fn(cells, do), a.ofBoth(a.bound(name)))
}

func (a *apart) exception(i int) int {
	return a.tuple(a.fn(ignored, a.exnName(a.Nodes[i].Text)), a.ofBoth(a.bound(i)))
}

func (a *apart) structureOf(i int) int {
	return a.tuple(a.fn(environment, a.structure(a.kids(i)[0])), a.ofBoth(a.bound(i)))
}

func (a *apart) functor(i int) int {
	kids := a.kids(i)
	do := a.fn(asked, a.scoped(a.bound(kids[0]), a.structure(kids[1])))
	return a.tuple(a.fn(environment, do), a.ofBoth(a.bound(i)))
}

// unlike are the numbers of a list, each once, where it stands last.
func unlike(l []int) []int {
	met := map[int]struct{}{}
	var last []int
	for _, i := range slices.Backward(l) {
		if _, ok := met[i]; !ok {
			met[i] = struct{}{}
			last = append(last, i)
		}
	}
	slices.Reverse(last)
	return last
}
