package lower

import "kiln/api"

// facts are what is known of a unit's nodes ahead of lowering them.
type facts struct {
	uses  []int  // at how many places a node stands
	tests []int  // how many tests a pattern makes that may fail, each as often as it is made
	binds []bool // a pattern or a declaration binds a variable
}

// mostTests is up to how many tests are counted.
const mostTests = 1 << 30

func factsOf(u *unit) facts {
	size := u.Root + 1
	f := facts{make([]int, size), make([]int, size), make([]bool, size)}
	f.uses[u.Root] = 1
	for i := u.Root; i >= 0; i-- {
		if f.uses[i] > 0 {
			for _, k := range u.kids(i) {
				f.uses[k]++
			}
		}
	}
	for i := range size {
		if f.uses[i] > 0 {
			f.learn(u, i)
		}
	}
	return f
}

// learn finds what is known of a node by what is known of its kids.
func (f *facts) learn(u *unit, i int) {
	f.tests[i], f.binds[i] = ownTests(u, i), bindsItself(u, i)
	switch k := u.Nodes[i].Kind; {
	case k >= api.PWild && k <= api.PAs, k == api.NField, k == api.NBind, k == api.NDecs, k == api.DVal, k == api.DLocal:
		for _, kid := range u.kids(i) {
			f.tests[i] = min(f.tests[i]+f.tests[kid], mostTests)
			f.binds[i] = f.binds[i] || f.binds[kid]
		}
	}
}

// ownTests is how many tests a pattern makes itself. (Of a PApp it is the name's.)
func ownTests(u *unit, i int) int {
	switch n := u.Notes[i]; u.Nodes[i].Kind {
	case api.NInt, api.NString, api.NChar:
		return 1
	case api.PName:
		if n.Is == api.SVar || n.Is == api.SCon && n.Count == 1 {
			return 0
		}
		return 1
	}
	return 0
}

// bindsItself tells whether a node binds a variable, whatever is below it.
func bindsItself(u *unit, i int) bool {
	switch u.Nodes[i].Kind {
	case api.PName:
		return u.Notes[i].Is == api.SVar
	case api.PAs, api.DRec, api.DStr, api.DFct:
		return true
	case api.DExn:
		for _, k := range u.kids(i) {
			if u.Nodes[k].Kind == api.NCon {
				return true
			}
		}
	}
	return false
}
