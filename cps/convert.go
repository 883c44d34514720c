package cps

import (
	"slices"
	"strings"

	"kiln/api"
)

// full is what a program that grows too large panics with.
type full struct{}

// value is what a term's value is known by: a variable of the program that is made; or, below 0, a constant, of which ^value is the term.
type value int

// Variables that are bound around the whole program, if it has them: functions that end it with what they are given.
const (
	halts value = 0
	fails value = 1
)

// converter makes a program.
type converter struct {
	*terms
	nodes []api.Flow
	atoms map[value]int // the nodes of atoms
	given value         // up to which variables are given out
	count int           // how many nodes there are, or will be by what is to be done
	tasks []func()      // what is to be done, the next one last, so that nothing is nested too deeply
	made  []int         // the moves and functions that stand in no other node yet
	begun int           // how many terms were begun since the last move
}

// converted is the program that does what a program of the small language does.
func converted(p api.Lambda) (q api.Cps, e api.Errno) {
	defer func() {
		switch r := recover().(type) {
		case nil:
		case full:
			q, e = api.Cps{}, api.ErrMany
		default:
			panic(r)
		}
	}()
	c := &converter{terms: newTerms(p), atoms: map[value]int{}, given: fails}
	c.reserve(1)
	c.term(p.Root, place{handler: fails}, then{v: halts})
	c.play()
	root := c.ended(halts, api.JHalt, c.made[0])
	root = c.ended(fails, api.JFail, root)
	return api.Cps{Nodes: c.nodes, Root: root}, api.OK
}

// play does all that is to be done.
func (c *converter) play() {
	for len(c.tasks) > 0 {
		last := len(c.tasks) - 1
		do := c.tasks[last]
		c.tasks = c.tasks[:last]
		do()
	}
}

// reserve counts nodes that there will be.
func (c *converter) reserve(n int) {
	c.count += n
	if c.count > api.MaxNodes {
		panic(full{})
	}
}

func (c *converter) put(f api.Flow) int {
	c.nodes = append(c.nodes, f)
	return len(c.nodes) - 1
}

// fresh is a variable that nobody has.
func (c *converter) fresh() value {
	c.given++
	return c.given
}

// make makes a move or a function that stands where it is called for: with atoms, and behind them what its parts make, each of which calls make once. These come first, since a node's Args are lower.
func (c *converter) make(f api.Flow, parts ...func()) {
	c.reserve(len(parts))
	c.tasks = append(c.tasks, func() {
		from := len(c.made) - len(parts)
		f.Args = append(f.Args, c.made[from:]...)
		c.made = append(c.made[:from], c.put(f))
	})
	for _, part := range slices.Backward(parts) {
		c.tasks = append(c.tasks, func() {
			c.begun = 0
			part()
		})
	}
}

// fn is what makes a function, whose body is made with its parameters.
func (c *converter) fn(params int, body func([]value)) func() {
	return func() {
		var l []value
		var vars []int
		for range params {
			l = append(l, c.fresh())
			vars = append(vars, int(c.given))
		}
		c.make(api.Flow{Kind: api.JFn, Vars: vars}, func() { body(l) })
	}
}

// bind makes a function's variable, and what comes then with it.
func (c *converter) bind(fn func(), rest func(value)) {
	v := c.fresh()
	c.make(api.Flow{Kind: api.JFix, Vars: []int{int(v)}}, fn, func() { rest(v) })
}

// args are the nodes of atoms.
func (c *converter) args(l ...value) []int {
	var args []int
	for _, v := range l {
		at, ok := c.atoms[v]
		if !ok {
			c.reserve(1)
			at = c.put(c.atom(v))
			c.atoms[v] = at
		}
		args = append(args, at)
	}
	return args
}

// atom is the node of an atom.
func (c *converter) atom(v value) api.Flow {
	if v >= 0 {
		return api.Flow{Kind: api.JVar, N: int(v)}
	}
	switch t := c.list[^v]; t.Kind {
	case api.LReal:
		return api.Flow{Kind: api.JReal, Bits: t.Bits}
	case api.LStr:
		return api.Flow{Kind: api.JStr, Text: strings.Clone(t.Text)}
	default:
		return api.Flow{Kind: api.JInt, Int: t.Int}
	}
}

// ended is a program with a function around it that ends it, if the program has its variable.
func (c *converter) ended(v value, kind api.FlowKind, root int) int {
	if _, ok := c.atoms[v]; !ok {
		return root
	}
	x := c.fresh()
	c.reserve(3)
	body := c.put(api.Flow{Kind: kind, Args: c.args(x)})
	fn := c.put(api.Flow{Kind: api.JFn, Vars: []int{int(x)}, Args: []int{body}})
	return c.put(api.Flow{Kind: api.JFix, Vars: []int{int(v)}, Args: []int{fn, root}})
}
