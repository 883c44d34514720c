package derive

import (
	"slices"
	"strconv"
	"strings"

	"kiln/api"
)

// builder makes the bare form of a tree: of each node once, of its kids first.
type builder struct {
	from         []api.Node // the tree
	bare         []int      // of each of its nodes: the number of its bare form
	nodes        []api.Node // the bare tree
	line, column int        // of the node whose bare form is made
	full         bool       // there would be too many nodes
}

// build makes the bare form of a node: its number.
func (b *builder) build(root int) int {
	table := forms()
	for i, ok := range leftOf(b.from, root) {
		if !ok {
			continue
		}
		n := b.from[i]
		b.line, b.column = n.Line, n.Column
		b.bare[i] = table[n.Kind].build(b, n)
		if b.full {
			return 0
		}
	}
	if b.bare[root] == none { // a directive alone: no declarations
		return b.put(api.NDecs, "")
	}
	return b.bare[root]
}

// leftOf tells of which nodes something is left: of all below the root but the names that stand in directives alone.
func leftOf(l []api.Node, root int) []bool {
	left := make([]bool, root+1)
	left[root] = true
	for i := root; i >= 0; i-- {
		if !left[i] || l[i].Kind == api.DFix {
			continue
		}
		for _, k := range l[i].Kids {
			left[k] = true
		}
	}
	return left
}

// add puts a node at the place of the one whose bare form is made, if there is room.
func (b *builder) add(n api.Node) int {
	if len(b.nodes) == api.MaxNodes {
		b.full = true
		return none
	}
	n.Line, n.Column = b.line, b.column
	b.nodes = append(b.nodes, n)
	return len(b.nodes) - 1
}

// put makes a node of kids in a list that is its own from then on.
func (b *builder) put(k api.NodeKind, text string, kids ...int) int {
	return b.add(api.Node{Kind: k, Text: text, Kids: kids})
}

// keep makes a node like one of the tree, likewise.
func (b *builder) keep(n api.Node, kids ...int) int {
	var path []string
	for _, s := range n.Path {
		path = append(path, strings.Clone(s))
	}
	return b.add(api.Node{Kind: n.Kind, Text: strings.Clone(n.Text), Path: path, Kids: kids})
}

// kids are the bare forms of a node's kids, without those of which nothing is left.
func (b *builder) kids(n api.Node) []int {
	var l []int
	for _, k := range n.Kids {
		if b.bare[k] != none {
			l = append(l, b.bare[k])
		}
	}
	return l
}

// fields makes NFields of these with the labels from 1 on.
func (b *builder) fields(l ...int) []int {
	var all []int
	for i, k := range l {
		all = append(all, b.put(api.NField, strconv.Itoa(i+1), k))
	}
	return all
}

// function makes a function of one rule.
func (b *builder) function(pat, exp int) int {
	return b.put(api.EFn, "", b.put(api.NRule, "", pat, exp))
}

// match makes an expression's case of rules.
func (b *builder) match(exp int, rules ...int) int {
	return b.put(api.EApp, "", b.put(api.EFn, "", rules...), exp)
}

// choose makes an expression's case of true and false.
func (b *builder) choose(exp, yes, no int) int {
	first := b.put(api.NRule, "", b.put(api.PName, "true"), yes)
	second := b.put(api.NRule, "", b.put(api.PName, "false"), no)
	return b.match(exp, first, second)
}

// sequence makes one expression of some: all but the last are cases of anything.
func (b *builder) sequence(l ...int) int {
	last := l[len(l)-1]
	for _, exp := range slices.Backward(l[:len(l)-1]) {
		last = b.match(exp, b.put(api.NRule, "", b.put(api.PWild, ""), last))
	}
	return last
}

// parameter is the name of a function's i-th parameter, from 1 on, that no program writes.
func parameter(i int) string { return " " + strconv.Itoa(i) }
