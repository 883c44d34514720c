package cps

import (
	"math"
	"slices"

	"kiln/api"
)

// pen is a program of the small language that is written node by node.
type pen struct{ l []api.Term }

func (p *pen) put(t api.Term) int {
	p.l = append(p.l, t)
	return len(p.l) - 1
}

func (p *pen) v(n int) int     { return p.put(api.Term{Kind: api.LVar, N: n}) }
func (p *pen) i(n int64) int   { return p.put(api.Term{Kind: api.LInt, Int: n}) }
func (p *pen) s(s string) int  { return p.put(api.Term{Kind: api.LStr, Text: s}) }
func (p *pen) r(x float64) int { return p.put(api.Term{Kind: api.LReal, Bits: math.Float64bits(x)}) }
func (p *pen) tuple(args ...int) int {
	return p.put(api.Term{Kind: api.LTuple, Args: args})
}
func (p *pen) field(n, a int) int { return p.put(api.Term{Kind: api.LField, N: n, Args: []int{a}}) }
func (p *pen) con(tag, a int) int { return p.put(api.Term{Kind: api.LCon, N: tag, Args: []int{a}}) }
func (p *pen) fn(v, body int) int { return p.put(api.Term{Kind: api.LFn, N: v, Args: []int{body}}) }
func (p *pen) app(f, a int) int   { return p.put(api.Term{Kind: api.LApp, Args: []int{f, a}}) }
func (p *pen) let(v, a, body int) int {
	return p.put(api.Term{Kind: api.LLet, N: v, Args: []int{a, body}})
}

// fix is functions for variables; the last of args is the body.
func (p *pen) fix(vars []int, args ...int) int {
	return p.put(api.Term{Kind: api.LFix, Vars: vars, Args: args})
}

// choose is a case of args[0]; behind it stand the branches.
func (p *pen) choose(keys []api.Key, args ...int) int {
	return p.put(api.Term{Kind: api.LCase, Keys: keys, Args: args})
}
func (p *pen) raise(a int) int { return p.put(api.Term{Kind: api.LRaise, Args: []int{a}}) }
func (p *pen) handle(a, v, b int) int {
	return p.put(api.Term{Kind: api.LHandle, N: v, Args: []int{a, b}})
}

// prim is a primitive by its name; of an overloaded one of ints, if its name does not say another type: "< string".
func (p *pen) prim(name string, args ...int) int {
	return p.put(api.Term{Kind: api.LPrim, N: placeOf(name), Args: args})
}

// print prints a string; say an int.
func (p *pen) print(s string) int { return p.prim("print", p.s(s)) }
func (p *pen) say(a int) int      { return p.prim("print", p.prim("intText", a)) }

// seq is some nodes one behind the other, the value of the last one; it binds 99.
func (p *pen) seq(l ...int) int {
	last := l[len(l)-1]
	for _, a := range slices.Backward(l[:len(l)-1]) {
		last = p.let(99, a, last)
	}
	return last
}

// program is the nodes with a root.
func (p *pen) program(root int) api.Lambda { return api.Lambda{Nodes: p.l, Root: root} }

// whole is a program with the names of the exceptions 1 to 8 around a node: 24 steps more.
func (p *pen) whole(root int) api.Lambda {
	for i, name := range exnNames() {
		root = p.let(i+1, p.prim("exn", p.s(name)), root)
	}
	return p.program(root)
}

func exnNames() []string {
	return []string{"Bind", "Chr", "Div", "Domain", "Match", "Overflow", "Size", "Subscript"}
}
