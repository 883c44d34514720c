package derive

import (
	"slices"

	"kiln/api"
	"kiln/tree"
)

// none is where a node's number might stand, but there is no node.
const none = -1

// fault is a restriction that does not hold, and the node at which that is told.
type fault struct {
	at    int
	errno api.Errno
}

// restriction is a function that asks it of a node.
type restriction struct {
	of  questions
	ask func(a *asker, i int) fault
}

// restrictions are all, in the order in which they are asked of one node.
func restrictions() []restriction {
	return []restriction{
		{areFunctions, (*asker).functions},
		{areOthers, (*asker).others},
		{areAlike, (*asker).alike},
		{areOtherCons, (*asker).otherCons},
		{areVariables, (*asker).variables},
		{areOtherSpecs, (*asker).otherSpecs},
		{mayBeBound, (*asker).bound},
	}
}

// firstFault is the first fault of a tree that tree.Check takes.
func firstFault(l []api.Node, root int) fault {
	below := tree.Below(l, root)
	a := newAsker(l, below)
	all := restrictions()
	for _, i := range below {
		q := questionsOf(l[i].Kind)
		for _, r := range all {
			if q&r.of == 0 {
				continue
			}
			if f := r.ask(a, i); f.errno != api.OK {
				return f
			}
		}
	}
	return fault{}
}

// roles are what a node is for those in which it stands: a bit for each.
type roles uint8

const (
	binds     roles = 1 << iota // a datatype, constructor, exception or NBind (of a DRec) whose names are bound
	specifies                   // an NCon that is a type's specification
)

// asker asks nodes of a tree.
type asker struct {
	l     []api.Node
	inner []int            // of a pattern or an expression: what it is without types around it
	roles []roles          // of each node
	met   map[string]space // names, with the sorts of them that have been met
	seen  []int            // of a node in a type: for which node's sake it was gone through last
}

// newAsker is one for a tree's nodes, whose numbers rise.
func newAsker(l []api.Node, below []int) *asker {
	size := below[len(below)-1] + 1
	a := &asker{l: l, inner: make([]int, size), roles: make([]roles, size), seen: make([]int, size), met: map[string]space{}}
	for _, i := range below {
		a.inner[i] = i
		if k := l[i].Kind; k == api.PTyped || k == api.ETyped {
			a.inner[i] = a.inner[l[i].Kids[0]]
		}
	}
	for _, i := range slices.Backward(below) { // from above: what a node is for hangs on what that one is for
		a.giveRoles(i)
	}
	return a
}

// giveRoles tells a node's kids what they are for it.
func (a *asker) giveRoles(i int) {
	n := a.l[i]
	role := binds
	switch n.Kind {
	case api.NDatbind:
		if a.roles[i]&binds == 0 {
			return
		}
	case api.DData, api.XData, api.DExn, api.XExn, api.DRec:
	case api.XType, api.XEq:
		role = specifies
	default:
		return
	}
	for _, k := range n.Kids {
		a.roles[k] |= role
	}
}

// again tells whether a name of this sort has been met, and from now on it has.
func (a *asker) again(s space, name string) bool {
	before := a.met[name]
	a.met[name] = before | s
	return before&s != 0
}

// nameOf is the name that a kid of a declaration, a specification or a record has, if it has one.
func (a *asker) nameOf(i int) (string, bool) {
	n := a.l[i]
	switch n.Kind {
	case api.NBind:
		p := a.l[a.inner[n.Kids[0]]]
		if p.Kind != api.PName || len(p.Path) > 0 {
			return "", false
		}
		return p.Text, true
	case api.NFun:
		return a.l[n.Kids[0]].Text, true
	case api.PDots:
		return "", false
	}
	return n.Text, true
}

// functions asks whether a DRec binds names to functions.
func (a *asker) functions(i int) fault {
	for _, k := range a.l[i].Kids {
		exp := a.inner[a.l[k].Kids[1]]
		if _, ok := a.nameOf(k); !ok || a.l[exp].Kind != api.EFn {
			return fault{k, api.ErrRec}
		}
	}
	return fault{}
}

// others asks whether no two kids have the same name.
func (a *asker) others(i int) fault {
	clear(a.met)
	for _, k := range a.l[i].Kids {
		if name, ok := a.nameOf(k); ok && a.again(values, name) {
			return fault{k, api.ErrTwice}
		}
	}
	return fault{}
}

// alike asks whether an NFun's clauses have one name, and as many patterns each.
func (a *asker) alike(i int) fault {
	clauses := a.l[i].Kids
	for _, k := range clauses {
		if a.l[k].Text != a.l[clauses[0]].Text || patterns(a.l, k) != patterns(a.l, clauses[0]) {
			return fault{k, api.ErrClause}
		}
	}
	return fault{}
}

// patterns is how many of them a clause has.
func patterns(l []api.Node, clause int) int { return len(l[l[clause].Kids[0]].Kids) }

// otherCons asks whether no two constructors of datatypes have the same name.
func (a *asker) otherCons(i int) fault {
	clear(a.met)
	for _, k := range a.l[i].Kids {
		if f := a.consAgain(k); f.errno != api.OK {
			return f
		}
	}
	return fault{}
}

// consAgain asks whether no constructor of a datatype has a name that has been met.
func (a *asker) consAgain(datbind int) fault {
	_, cons := a.ahead(datbind)
	for _, k := range cons {
		if a.again(values, a.l[k].Text) {
			return fault{k, api.ErrTwice}
		}
	}
	return fault{}
}

// ahead is a node's kids: the type variables that stand ahead, and the others.
func (a *asker) ahead(i int) (vars, others []int) {
	kids := a.l[i].Kids
	n := len(kids)
	switch a.l[i].Kind {
	case api.NDatbind:
		n = slices.IndexFunc(kids, func(k int) bool { return a.l[k].Kind == api.NCon })
	case api.NTybind, api.NWhere: // the last one is the type, which may be a variable, too
		n--
	}
	return kids[:n], kids[n:]
}

// variables asks whether no type variable stands ahead twice, and all in the types behind them stand there.
func (a *asker) variables(i int) fault {
	if a.l[i].Kind == api.NCon && a.roles[i]&specifies == 0 {
		return fault{}
	}
	clear(a.met)
	vars, others := a.ahead(i)
	for _, k := range vars {
		if a.again(values, a.l[k].Text) {
			return fault{k, api.ErrTwice}
		}
	}
	if k := a.stray(i, others); k != none {
		return fault{k, api.ErrTyvar}
	}
	return fault{}
}

// stray is the lowest type variable, in what stands behind those of node i, that has not been met; or none.
func (a *asker) stray(i int, behind []int) int {
	lowest := none
	next := slices.Clone(behind)
	for len(next) > 0 {
		k := next[len(next)-1]
		next = next[:len(next)-1]
		if a.seen[k] == i {
			continue
		}
		a.seen[k] = i
		n := a.l[k]
		if n.Kind == api.TVar && a.met[n.Text] == 0 && (lowest == none || k < lowest) {
			lowest = k
		}
		next = append(next, n.Kids...)
	}
	return lowest
}

// otherSpecs asks whether no two specifications of a signature have the same name of one sort.
func (a *asker) otherSpecs(i int) fault {
	clear(a.met)
	for _, s := range a.l[i].Kids {
		spec := a.l[s]
		for _, k := range spec.Kids {
			if a.again(spaceOf(spec.Kind), a.l[k].Text) {
				return fault{k, api.ErrTwice}
			}
			if spec.Kind != api.XData {
				continue
			}
			if f := a.consAgain(k); f.errno != api.OK {
				return f
			}
		}
	}
	return fault{}
}

// bound asks whether a node binds no name that stands for something everywhere.
func (a *asker) bound(i int) fault {
	k := a.l[i].Kind
	if (k == api.NCon || k == api.NBind) && a.roles[i]&binds == 0 {
		return fault{}
	}
	if name, ok := a.nameOf(i); ok && isBarred(name, k) {
		return fault{i, api.ErrBound}
	}
	return fault{}
}
