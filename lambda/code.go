package lambda

import (
	"kiln/api"
	"kiln/flo"
	"kiln/values"
)

// node is a node of a program that is run.
type node struct {
	kind  api.TermKind
	n     int // as the program has it; of a variable its number
	args  []int
	binds []int            // LFix: its variables' numbers
	val   values.Value     // of a constant
	keys  *values.Branches // LCase
}

// coder makes what is run of a program: its variables are numbered from 0 on, those first that are met first from the root down.
type coder struct {
	nodes   []node
	numbers map[int]int
}

// newCode is what is run of a program, and the numbers of its variables.
func newCode(p api.Lambda) *coder {
	c := &coder{nodes: make([]node, p.Root+1), numbers: map[int]int{}}
	met := make([]bool, p.Root+1)
	met[p.Root] = true
	for i := p.Root; i >= 0; i-- {
		if !met[i] {
			continue
		}
		t := p.Nodes[i]
		c.nodes[i] = c.node(t)
		for _, a := range c.nodes[i].args {
			met[a] = true
		}
	}
	return c
}

func (c *coder) node(t api.Term) node {
	n := node{kind: t.Kind, n: t.N, args: parts(t)}
	switch t.Kind {
	case api.LVar, api.LFn, api.LLet, api.LHandle:
		n.n = c.number(t.N)
	case api.LFix:
		for _, v := range t.Vars {
			n.binds = append(n.binds, c.number(v))
		}
	case api.LInt:
		n.val = values.Int(t.Int)
	case api.LReal:
		n.val = values.Real(flo.From(t.Bits))
	case api.LStr:
		n.val = values.Text(t.Text)
	case api.LCase:
		n.keys = values.NewBranches(t.Keys)
	}
	return n
}

// number is a variable's number.
func (c *coder) number(v int) int {
	n, ok := c.numbers[v]
	if !ok {
		n = len(c.numbers)
		c.numbers[v] = n
	}
	return n
}
