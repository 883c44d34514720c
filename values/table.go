package values

import "kiln/api"

// prim is a primitive: its name, the type constructor for which it is or -1, what it does.
type prim struct {
	name string
	con  int
	do   func(*State, []Value) Answer
}

// primitives are all primitives, by their places in api.Prims.
func primitives() []prim {
	l := append(ofInts(), ofReals()...)
	l = append(l, ofOrders()...)
	l = append(l, ofNumbers()...)
	return append(l, ofThings()...)
}

func ofInts() []prim {
	return []prim{
		{"+", api.ConInt, two(Int.add)},
		{"-", api.ConInt, two(Int.sub)},
		{"*", api.ConInt, two(Int.mul)},
		{"~", api.ConInt, one(Int.neg)},
		{"abs", api.ConInt, one(Int.abs)},
		{"<", api.ConInt, two(Int.below)},
		{"<=", api.ConInt, two(Int.atMost)},
		{">", api.ConInt, two(Int.above)},
		{">=", api.ConInt, two(Int.atLeast)},
	}
}

func ofReals() []prim {
	return []prim{
		{"+", api.ConReal, two(Real.add)},
		{"-", api.ConReal, two(Real.sub)},
		{"*", api.ConReal, two(Real.mul)},
		{"~", api.ConReal, one(Real.neg)},
		{"abs", api.ConReal, one(Real.abs)},
		{"<", api.ConReal, two(Real.below)},
		{"<=", api.ConReal, two(Real.atMost)},
		{">", api.ConReal, two(Real.above)},
		{">=", api.ConReal, two(Real.atLeast)},
	}
}

// ofOrders are those of the orders of characters, which are ints, and of strings.
func ofOrders() []prim {
	return []prim{
		{"<", api.ConChar, two(Int.below)},
		{"<=", api.ConChar, two(Int.atMost)},
		{">", api.ConChar, two(Int.above)},
		{">=", api.ConChar, two(Int.atLeast)},
		{"<", api.ConString, two(Text.below)},
		{"<=", api.ConString, two(Text.atMost)},
		{">", api.ConString, two(Text.above)},
		{">=", api.ConString, two(Text.atLeast)},
	}
}

func ofNumbers() []prim {
	return []prim{
		{"div", -1, two(Int.div)},
		{"mod", -1, two(Int.mod)},
		{"quot", -1, two(Int.quot)},
		{"rem", -1, two(Int.rem)},
		{"/", -1, two(Real.div)},
		{"floor", -1, one(Real.floor)},
		{"ceil", -1, one(Real.ceil)},
		{"trunc", -1, one(Real.trunc)},
		{"round", -1, one(Real.round)},
		{"real", -1, one(Int.real)},
		{"same", -1, two(Real.same)},
		{"isNan", -1, one(Real.isNan)},
		{"realText", -1, one(Real.text)},
		{"intText", -1, one(Int.text)},
		{"intScan", -1, one(Text.scanInt)},
		{"realScan", -1, one(Text.scanReal)},
	}
}

func ofThings() []prim {
	return []prim{
		{"ord", -1, one(Int.ord)},
		{"chr", -1, one(Int.chr)},
		{"^", -1, two(Text.cat)},
		{"size", -1, one(Text.size)},
		{"sub", -1, two(Text.sub)},
		{"substring", -1, three(Text.cut)},
		{"str", -1, one(Int.str)},
		{"=", -1, (*State).equal},
		{"<>", -1, (*State).unlike},
		{"ref", -1, (*State).ref},
		{"!", -1, one((*Cell).content)},
		{":=", -1, (*State).assign},
		{"array", -1, (*State).array},
		{"length", -1, one((*Cell).length)},
		{"get", -1, two((*Cell).at)},
		{"set", -1, (*State).put},
		{"print", -1, (*State).print},
		{"input", -1, (*State).read},
		{"exn", -1, one(Text.exn)},
	}
}
