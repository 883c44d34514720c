package cps

import (
	"kiln/api"
	"kiln/flo"
	"kiln/flows"
	"kiln/values"
)

// operand is an atom: a constant, or, if it has no value, a variable by its number.
type operand struct {
	val values.Value
	v   int
}

// node is a move or a function of a program that is run.
type node struct {
	kind  api.FlowKind
	m     int   // the field, the tag, the primitive
	binds []int // its variables' numbers
	atoms []operand
	next  []int            // the moves and functions of which it is made
	keys  *values.Branches // JCase
}

// coder makes what is run of a program: its variables are numbered from 0 on, those first that are met first from the root down.
type coder struct {
	from    []api.Flow
	nodes   []node
	numbers map[int]int
}

// newCode is what is run of a program.
func newCode(p api.Cps) []node {
	c := &coder{from: p.Nodes, nodes: make([]node, p.Root+1), numbers: map[int]int{}}
	met := make([]bool, p.Root+1)
	met[p.Root] = true
	for i := p.Root; i >= 0; i-- {
		if !met[i] || flows.IsAtom(p.Nodes[i].Kind) {
			continue
		}
		c.nodes[i] = c.node(p.Nodes[i])
		for _, a := range c.nodes[i].next {
			met[a] = true
		}
	}
	return c.nodes
}

func (c *coder) node(f api.Flow) node {
	n := node{kind: f.Kind, m: f.M}
	for _, a := range f.Args {
		if flows.IsAtom(c.from[a].Kind) {
			n.atoms = append(n.atoms, c.operand(c.from[a]))
		} else {
			n.next = append(n.next, a)
		}
	}
	switch f.Kind {
	case api.JTuple, api.JCon, api.JField, api.JPrim:
		n.binds = []int{c.number(f.N)}
	case api.JFix, api.JFn:
		for _, v := range f.Vars {
			n.binds = append(n.binds, c.number(v))
		}
	case api.JCase:
		n.keys = values.NewBranches(f.Keys)
	}
	return n
}

func (c *coder) operand(f api.Flow) operand {
	switch f.Kind {
	case api.JInt:
		return operand{val: values.Int(f.Int)}
	case api.JReal:
		return operand{val: values.Real(flo.From(f.Bits))}
	case api.JStr:
		return operand{val: values.Text(f.Text)}
	}
	return operand{v: c.number(f.N)}
}

// number is a variable's number.
func (c *coder) number(v int) int {
	n, ok := c.numbers[v]
	if !ok {
		n = len(c.numbers)
		c.numbers[v] = n
	}
	return n
}
