package cps

import (
	"strings"

	"kiln/api"
	"kiln/vars"
)

// place is what holds where a term stands: what its variables are known by, and the function that is called with what is raised.
type place struct {
	scope   *vars.Scope[value]
	handler value
}

// then is what comes behind a term: what do makes with its value; or, where that is nil, a call of a function with it.
type then struct {
	v  value
	do func(value)
}

// with is a place where one more variable is bound.
func (c *converter) with(s place, v int, to value) place {
	if n, ok := c.numbers[v]; ok { // else no term has it
		s.scope = s.scope.With(n, to)
	}
	return s
}

// find is what a variable is known by.
func (c *converter) find(s place, v int) value {
	to, _ := s.scope.Find(c.numbers[v])
	return to
}

// term makes a term and what comes then.
func (c *converter) term(i int, s place, k then) {
	c.tasks = append(c.tasks, func() {
		if c.begun < c.most {
			c.begin(i, s, k)
			return
		}
		c.make(api.Flow{Kind: api.JTuple, N: int(c.fresh()), Args: c.args(c.zero())}, func() { c.begin(i, s, k) }) // a step that counts for many
	})
}

func (c *converter) begin(i int, s place, k then) {
	c.begun++
	t := c.list[i]
	switch t.Kind {
	case api.LVar:
		c.give(c.find(s, t.N), k)
	case api.LInt, api.LReal, api.LStr:
		c.give(^value(i), k)
	case api.LFn:
		c.bind(c.function(i, s), func(f value) { c.give(f, k) })
	case api.LLet:
		c.term(t.Args[0], s, then{do: func(v value) { c.term(t.Args[1], c.with(s, t.N, v), k) }})
	case api.LFix:
		c.fix(t, s, k)
	case api.LCase:
		c.term(t.Args[0], s, then{do: func(v value) { c.choose(t, v, s, k) }})
	case api.LRaise:
		c.term(t.Args[0], s, then{do: func(v value) { c.raise(v, s) }})
	case api.LHandle:
		c.handle(t, s, k)
	default:
		c.inOrder(t.Args, s, func(l []value) { c.finish(t, l, s, k) })
	}
}

// inOrder makes terms from the left, one or more, and what comes then with their values.
func (c *converter) inOrder(args []int, s place, do func([]value)) {
	var l []value
	var next func(value)
	next = func(v value) {
		l = append(l, v)
		if len(l) < len(args) {
			c.term(args[len(l)], s, then{do: next})
		} else {
			do(l)
		}
	}
	c.term(args[0], s, then{do: next})
}

// finish makes what a term does with the values of its parts.
func (c *converter) finish(t api.Term, l []value, s place, k then) {
	if t.Kind == api.LApp {
		c.named(k, func(k value) { c.call(l[0], l[1], k, s.handler) })
		return
	}
	v := c.fresh()
	f := api.Flow{N: int(v), M: t.N, Args: c.args(l...)}
	rest := func() { c.give(v, k) }
	switch t.Kind {
	case api.LTuple:
		f.Kind, f.M = api.JTuple, 0
	case api.LField:
		f.Kind = api.JField
	case api.LCon:
		f.Kind = api.JCon
	case api.LPrim:
		f.Kind = api.JPrim
		if codes := c.prims[t.N].Raises; len(codes) > 0 {
			c.make(f, rest, func() { c.raiseCode(codes, v, s) })
			return
		}
	}
	c.make(f, rest)
}

// give makes what comes behind a value.
func (c *converter) give(v value, k then) {
	switch {
	case k.do != nil:
		k.do(v)
	case k.v == halts:
		c.make(api.Flow{Kind: api.JHalt, Args: c.args(v)})
	default:
		c.call(k.v, v)
	}
}

func (c *converter) call(l ...value) {
	c.make(api.Flow{Kind: api.JCall, Args: c.args(l...)})
}

// named makes something with a function's variable for what comes then, so that this stands there once, wherever it is called from.
func (c *converter) named(k then, rest func(value)) {
	if k.do == nil {
		rest(k.v)
		return
	}
	c.bind(c.fn(1, func(l []value) { k.do(l[0]) }), rest)
}

// function is what makes a term's function: of its argument, what comes behind it, and the handler.
func (c *converter) function(i int, s place) func() {
	t := c.list[i]
	return c.fn(3, func(l []value) {
		inner := c.with(s, t.N, l[0])
		inner.handler = l[2]
		c.term(t.Args[0], inner, then{v: l[1]})
	})
}

func (c *converter) fix(t api.Term, s place, k then) {
	vs := make([]int, len(t.Vars))
	for i := len(t.Vars) - 1; i >= 0; i-- { // of equal variables the first one counts
		v := c.fresh()
		vs[i] = int(v)
		s = c.with(s, t.Vars[i], v)
	}
	s.scope = s.scope.Kept()
	var made []func()
	for _, a := range t.Args[:len(t.Vars)] {
		made = append(made, c.function(a, s))
	}
	made = append(made, func() { c.term(t.Args[len(t.Vars)], s, k) })
	c.make(api.Flow{Kind: api.JFix, Vars: vs}, made...)
}

// choose makes a case of a value.
func (c *converter) choose(t api.Term, v value, s place, k then) {
	branches := t.Args[1:]
	if len(branches) <= 1 {
		c.branch(t, v, s, k)
		return
	}
	c.named(k, func(j value) { c.branch(t, v, s, then{v: j}) })
}

// branch makes a case, behind each of whose branches the same comes.
func (c *converter) branch(t api.Term, v value, s place, k then) {
	var l []func()
	for _, a := range t.Args[1:] {
		l = append(l, func() { c.term(a, s, k) })
	}
	c.make(api.Flow{Kind: api.JCase, Keys: keys(t.Keys), Args: c.args(v)}, l...)
}

// keys are the same keys, in new memory, without what their kinds do not name.
func keys(l []api.Key) []api.Key {
	var all []api.Key
	for _, k := range l {
		if k.Kind == api.KeyStr {
			k.Int, k.Text = 0, strings.Clone(k.Text)
		} else {
			k.Text = ""
		}
		all = append(all, k)
	}
	return all
}

// raise makes what comes when a value is raised.
func (c *converter) raise(packet value, s place) {
	if s.handler == fails {
		c.make(api.Flow{Kind: api.JFail, Args: c.args(packet)})
	} else {
		c.call(s.handler, packet)
	}
}

// raiseCode makes what comes when a primitive raises one of some codes.
func (c *converter) raiseCode(codes []int, code value, s place) {
	var asked []api.Key
	var l []func()
	for _, n := range codes {
		asked = append(asked, api.Key{Kind: api.KeyInt, Int: int64(n)})
		l = append(l, func() {
			packet := c.fresh()
			c.make(api.Flow{Kind: api.JTuple, N: int(packet), Args: c.args(c.find(s, n), c.zero())}, func() { c.raise(packet, s) })
		})
	}
	if len(codes) == 1 {
		l[0]()
		return
	}
	c.make(api.Flow{Kind: api.JCase, Keys: asked[1:], Args: c.args(code)}, append(l[1:], l[0])...) // what none asks for is the first one
}

func (c *converter) handle(t api.Term, s place, k then) {
	c.named(k, func(j value) {
		handler := c.fn(1, func(l []value) { c.term(t.Args[1], c.with(s, t.N, l[0]), then{v: j}) })
		c.bind(handler, func(h value) { c.term(t.Args[0], place{s.scope, h}, then{v: j}) })
	})
}
