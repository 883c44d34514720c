package cps

import (
	"math/rand"
	"slices"

	"kiln/api"
)

// The types of what is grown at random.
const (
	gInt = iota
	gStr
	gReal
	gPair   // of gInt and gStr
	gList   // of gPairs: the int 0, or a constructor's value with the tag 1 of a gPair and a gList
	gFun    // from gInt to gInt
	gAct    // from gList to gStr
	gRef    // of a gInt
	gArr    // of gStrs
	gPacket // of what is raised
	gTypes
)

// grower grows programs: a variable's number says its type, so a node may stand wherever its free variables are bound.
type grower struct {
	*pen
	r     *rand.Rand
	pool  [gTypes][]grown
	wrong int // of how many nodes one is of another type than it must; 0: of none
}

// grown is a node, and the variables that may be free in it.
type grown struct {
	at   int
	free []int
}

func (g *grower) variable(t int) int { return 20 + perType*t + g.r.Intn(perType) }

// program is a program that is grown at random.
func (g *grower) program(deep int) api.Lambda {
	l := []int{g.show(g.grow(gInt, nil, deep)), g.prim("print", g.grow(gStr, nil, deep)), g.grow(g.r.Intn(gTypes), nil, deep)}
	for i, a := range l {
		if g.r.Intn(4) > 0 {
			l[i] = g.handle(a, 98, g.print("!"))
		}
	}
	return g.whole(g.seq(l...))
}

func (g *grower) show(a int) int { return g.prim("print", g.prim("intText", a)) }

// grow is a node of a type, in which the variables of scope may be free.
func (g *grower) grow(t int, scope []int, deep int) int {
	if g.wrong > 0 && g.r.Intn(g.wrong) == 0 {
		t = g.r.Intn(gTypes)
	}
	if g.r.Intn(6) == 0 {
		fits := func(x grown) bool {
			return !slices.ContainsFunc(x.free, func(v int) bool { return !slices.Contains(scope, v) })
		}
		if i := slices.IndexFunc(g.pool[t], fits); i >= 0 {
			return g.pool[t][i].at
		}
	}
	at := g.plain(t, scope, deep)
	g.pool[t] = append(g.pool[t], grown{at, scope})
	if i := g.r.Intn(len(g.pool[t])); i > 0 {
		g.pool[t][i], g.pool[t][0] = g.pool[t][0], g.pool[t][i]
	}
	return at
}

func (g *grower) plain(t int, scope []int, deep int) int {
	if deep <= 0 || g.r.Intn(12) == 0 {
		return g.base(t, scope)
	}
	deep--
	sub := func(t int, bound ...int) int {
		return g.grow(t, append(slices.Clone(scope), bound...), deep-g.r.Intn(2))
	}
	s := g.r.Intn(gTypes)
	v := g.variable(s)
	switch g.r.Intn(14) {
	case 0, 1:
		return g.let(v, sub(s), sub(t, v))
	case 2:
		return g.app(g.fn(v, sub(t, v)), sub(s))
	case 3:
		p := g.variable(gPacket)
		return g.handle(sub(t), p, g.let(99, g.prim("print", g.prim("!", g.field(0, g.v(p)))), sub(t, p)))
	case 4:
		return g.handle(sub(t), 98, sub(t))
	case 5:
		if g.r.Intn(3) == 0 {
			return g.raise(sub(gPacket))
		}
	case 6:
		return g.choose([]api.Key{kInt(0), kInt(1), kInt(int64(g.r.Intn(4)))}, sub(gInt), sub(t), sub(t), sub(t), sub(t))
	case 7:
		p := g.variable(gPair)
		return g.choose([]api.Key{kCon(1), kInt(0)}, sub(gList), g.let(p, g.pair(scope, deep), sub(t, p)), sub(t))
	case 8:
		return g.choose([]api.Key{kStr("a"), kStr(""), kStr("bc")}, sub(gStr), sub(t), sub(t), sub(t), sub(t))
	case 9:
		f, h := g.variable(gFun), g.variable(gAct)
		x, l := g.variable(gInt), g.variable(gList)
		body := sub(gInt, f, h, x)
		if g.r.Intn(2) == 0 {
			body = g.again(f, x, body, sub(gInt, f, h, x))
		}
		in := sub(t, f, h)
		if g.r.Intn(2) == 0 {
			in = g.let(99, g.show(g.app(g.v(f), g.i([]int64{0, 2, 3, 40, 400, -1}[g.r.Intn(6)]))), in)
		}
		return g.fix([]int{f, h}, g.fn(x, body), g.fn(l, sub(gStr, f, h, l)), in)
	case 10:
		return g.let(99, g.effect(sub), sub(t))
	}
	return g.own(t, sub)
}

// again is a function's body that calls the function with what is one less, till that is 0.
func (g *grower) again(f, x, base, step int) int {
	call := g.app(g.v(f), g.prim("-", g.v(x), g.i(1)))
	switch g.r.Intn(4) {
	case 0:
		call = g.prim("+", step, call)
	case 1:
		call = g.let(99, step, call)
	case 2:
		call = g.handle(call, 98, step)
	}
	return g.choose([]api.Key{kInt(0)}, g.v(x), base, call)
}

func (g *grower) pair(scope []int, deep int) int { return g.grow(gPair, scope, deep-1) }

// base is a variable or a constant.
func (g *grower) base(t int, scope []int) int {
	if l := slices.DeleteFunc(slices.Clone(scope), func(v int) bool { return (v-20)/perType != t }); len(l) > 0 && g.r.Intn(4) > 0 {
		return g.v(l[g.r.Intn(len(l))])
	}
	switch t {
	case gInt:
		return g.i([]int64{0, 0, 1, 1, 2, 2, 3, 3, -1, 255, 256, api.MaxFix, api.MinFix, 48}[g.r.Intn(14)])
	case gStr:
		return g.s([]string{"", "a", "bc", " 12x", "~1.5E2", "9999999999999999999", "\xff\n"}[g.r.Intn(7)])
	case gReal:
		return g.r64()
	case gPair:
		return g.tuple(g.base(gInt, scope), g.base(gStr, scope))
	case gList:
		return g.i(0)
	case gFun:
		x := g.variable(gInt)
		return g.fn(x, g.base(gInt, append(slices.Clone(scope), x)))
	case gAct:
		l := g.variable(gList)
		return g.fn(l, g.base(gStr, scope))
	case gRef:
		return g.prim("ref", g.base(gInt, scope))
	case gArr:
		return g.prim("array", g.i(int64(g.r.Intn(4))), g.base(gStr, scope))
	}
	if g.r.Intn(2) == 0 {
		return g.tuple(g.prim("exn", g.base(gStr, scope)), g.i(0))
	}
	return g.tuple(g.v(1+g.r.Intn(8)), g.base(g.r.Intn(gPacket), scope))
}

func (g *grower) r64() int {
	l := []uint64{0, 1 << 63, 0x3FF8000000000000, 0xC004000000000000, 0x7FF0000000000000, 0x7FF8000000000001, 0x7FEFFFFFFFFFFFFF, 0x43D0000000000000}
	return g.put(api.Term{Kind: api.LReal, Bits: l[g.r.Intn(len(l))]})
}

// effect does something that is seen further on.
func (g *grower) effect(sub func(int, ...int) int) int {
	switch g.r.Intn(4) {
	case 0:
		return g.prim("print", sub(gStr))
	case 1:
		return g.prim(":=", sub(gRef), sub(gInt))
	case 2:
		return g.prim("set", sub(gArr), sub(gInt), sub(gStr))
	}
	return g.show(sub(gInt))
}

func (g *grower) any(l ...string) string { return l[g.r.Intn(len(l))] }

// own is what has the type by a primitive, a field, or the like.
func (g *grower) own(t int, sub func(int, ...int) int) int {
	switch t {
	case gInt:
		return g.ofInt(sub)
	case gStr:
		return g.ofStr(sub)
	case gReal:
		switch g.r.Intn(3) {
		case 0:
			return g.prim("real", sub(gInt))
		case 1:
			return g.field(0, g.prim("realScan", sub(gStr)))
		}
		if g.r.Intn(3) == 0 {
			return g.prim(g.any("~ real", "abs real"), sub(gReal))
		}
		return g.prim(g.any("+ real", "- real", "* real", "/"), sub(gReal), sub(gReal))
	case gPair:
		return g.tuple(sub(gInt), sub(gStr))
	case gList:
		return g.con(1, g.tuple(sub(gPair), sub(gList)))
	case gFun:
		x := g.variable(gInt)
		return g.fn(x, sub(gInt, x))
	case gAct:
		l := g.variable(gList)
		return g.fn(l, sub(gStr, l))
	case gRef:
		return g.prim("ref", sub(gInt))
	case gArr:
		return g.prim("array", g.prim("mod", sub(gInt), g.i(5)), sub(gStr))
	}
	return g.tuple(g.prim("exn", sub(gStr)), sub(g.r.Intn(gTypes)))
}

func (g *grower) ofInt(sub func(int, ...int) int) int {
	switch g.r.Intn(16) {
	case 0, 1:
		return g.prim(g.any("+", "-", "*", "div", "mod", "quot", "rem", "<", "<=", ">", ">=", "< char", "<= char", "> char", ">= char"), sub(gInt), sub(gInt))
	case 2:
		return g.prim(g.any("~", "abs", "chr"), sub(gInt))
	case 3:
		return g.prim(g.any("< real", "<= real", "> real", ">= real", "same"), sub(gReal), sub(gReal))
	case 4:
		return g.prim(g.any("< string", "<= string", "> string", ">= string"), sub(gStr), sub(gStr))
	case 5:
		return g.prim(g.any("floor", "ceil", "trunc", "round", "isNan"), sub(gReal))
	case 6:
		return g.prim("size", sub(gStr))
	case 7:
		return g.prim("sub", sub(gStr), sub(gInt))
	case 8:
		return g.field(g.r.Intn(2), g.prim("intScan", sub(gStr)))
	case 9:
		s := []int{gInt, gStr, gPair, gList, gList, gRef, gArr}[g.r.Intn(7)]
		return g.prim(g.any("=", "<>"), sub(s), sub(s))
	case 10:
		return g.prim("!", sub(gRef))
	case 11:
		return g.prim("length", sub(gArr))
	case 12:
		return g.field(0, sub(gPair))
	case 13:
		return g.prim("ord", g.prim("chr", sub(gInt)))
	}
	return g.app(sub(gFun), sub(gInt))
}

func (g *grower) ofStr(sub func(int, ...int) int) int {
	switch g.r.Intn(9) {
	case 0:
		return g.prim("^", sub(gStr), sub(gStr))
	case 1:
		return g.prim("substring", sub(gStr), sub(gInt), sub(gInt))
	case 2:
		return g.prim("str", g.prim("chr", sub(gInt)))
	case 3:
		return g.prim("intText", sub(gInt))
	case 4:
		return g.prim("realText", sub(gReal))
	case 5:
		return g.prim("get", sub(gArr), sub(gInt))
	case 6:
		return g.field(1, sub(gPair))
	case 7:
		return g.prim("input", g.i(0))
	}
	return g.app(sub(gAct), sub(gList))
}
