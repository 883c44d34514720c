// Package reach tells of which nodes of a list others are made.
package reach

// From tells of each node whether it is one of the roots, or one of these is made of it; false, if a root is none of so many nodes, or one of all these has a part that is not lower.
func From(roots []int, nodes int, parts func(int) []int) ([]bool, bool) {
	top := -1
	for _, r := range roots {
		if r < 0 || r >= nodes {
			return nil, false
		}
		top = max(top, r)
	}
	made := make([]bool, top+1)
	for _, r := range roots {
		made[r] = true
	}
	for i := top; i >= 0; i-- {
		if !made[i] {
			continue
		}
		for _, a := range parts(i) {
			if a < 0 || a >= i {
				return nil, false
			}
			made[a] = true
		}
	}
	return made, true
}

// All tells whether something holds of all nodes of which the roots are made.
func All(made []bool, holds func(int) bool) bool {
	for i, is := range made {
		if is && !holds(i) {
			return false
		}
	}
	return true
}
