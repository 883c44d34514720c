package tree

import (
	"strconv"

	"kiln/api"
)

// none is where a node's number might stand, but there is no node.
const none = -1

// within tells whether i is a node's number.
func within(l []api.Node, i int) bool { return i >= 0 && i < len(l) }

// lower tells whether a node's kid is one that the node may have.
func lower(kid, node int) bool { return kid >= 0 && kid < node }

// reach is how many nodes of the list can be below these roots.
func reach(l []api.Node, roots []int) int {
	size := 0
	for _, r := range roots {
		if within(l, r) {
			size = max(size, r+1)
		}
	}
	return size
}

// meetKids marks those kids of a node that are lower than it.
func meetKids(met []bool, kids []int, node int) {
	for _, k := range kids {
		if lower(k, node) {
			met[k] = true
		}
	}
}

// looks numbers trees, from 0 on, so that two have one number if they are the same. By it a tree is looked at once, wherever else it stands: pairs of trees would be too many.
type looks map[string]int

// of is the number of a tree; none, if a kid in it is not lower than its node.
func (k looks) of(l []api.Node, root int) int {
	numbers := make([]int, root+1)
	for _, i := range Below(l, root) {
		look, ok := lookOf(l[i], i, numbers)
		if !ok {
			return none
		}
		n, met := k[look]
		if !met {
			n = len(k)
			k[look] = n
		}
		numbers[i] = n
	}
	return numbers[root]
}

// lookOf is what a node is, in a text that no other node has, and whether all of its kids are lower than it.
func lookOf(n api.Node, i int, numbers []int) (string, bool) {
	b := strconv.AppendInt(nil, int64(n.Kind), 10)
	b = appendText(b, n.Text)
	b = appendNumber(b, len(n.Path))
	for _, s := range n.Path {
		b = appendText(b, s)
	}
	for _, k := range n.Kids {
		if !lower(k, i) {
			return "", false
		}
		b = appendNumber(b, numbers[k])
	}
	return string(b), true
}

func appendNumber(b []byte, n int) []byte { return strconv.AppendInt(append(b, ' '), int64(n), 10) }

// appendText puts a text's length ahead of it: so it is known where it ends, whatever is in it.
func appendText(b []byte, s string) []byte {
	return append(append(appendNumber(b, len(s)), ' '), s...)
}
