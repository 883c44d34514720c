package elab

import (
	"slices"

	"kiln/api"
)

// datatype is an NDatbind.
type datatype struct {
	node int
	vars []int // what its TVars stand for
	con  int   // its type constructor
	t    int   // that one, of the variables
	cons []api.Entry
}

func (w *walker) decData(i int) {
	var group []*datatype
	for _, k := range w.nodes[i].Kids {
		d := &datatype{node: k, vars: w.newVars(w.heads(k, api.TVar))}
		w.makeType(d, api.If)
		group = append(group, d)
	}
	before := w.env.Mark()
	w.fill(group)
	w.env.Drop(before)
	if out := w.unequal(group); len(out) > 0 { // a constructor's equality can't be turned: so these, and what they stand in, are made anew
		for _, d := range out {
			w.makeType(d, api.Never)
		}
		w.fill(group)
		w.env.Drop(before)
	}
	for _, d := range group {
		w.env.AddTyp(w.typOf(d))
		for _, c := range d.cons {
			w.addOwn(c)
		}
	}
}

// heads are those kids of a node that are of a kind.
func (w *walker) heads(i int, kind api.NodeKind) []int {
	return slices.DeleteFunc(slices.Clone(w.nodes[i].Kids), func(k int) bool { return w.nodes[k].Kind != kind })
}

// makeType makes a datatype's type constructor.
func (w *walker) makeType(d *datatype, equal api.Equality) {
	con, e := w.book.Con(w.nodes[d.node].Text, len(d.vars), equal)
	w.check(d.node, e)
	t, e := w.book.Apply(con, d.vars...)
	w.check(d.node, e)
	w.cons = append(w.cons, con)
	d.con, d.t = con, t
}

func (w *walker) typOf(d *datatype) api.Typ {
	return api.Typ{Name: w.nodes[d.node].Text, Scheme: api.Scheme{Vars: d.vars, Type: d.t}, Cons: d.cons}
}

// fill makes the constructors of datatypes, in the environment with all of these.
func (w *walker) fill(group []*datatype) {
	for _, d := range group {
		d.cons = nil
		w.env.AddTyp(w.typOf(d))
	}
	for _, d := range group {
		around := w.enterTypes(w.heads(d.node, api.TVar), d.vars)
		nodes := w.heads(d.node, api.NCon)
		for _, k := range nodes {
			d.cons = append(d.cons, w.constructor(k, d))
		}
		w.scope = around
		number(d.cons)
	}
}

// constructor is the constructor of an NCon.
func (w *walker) constructor(i int, d *datatype) api.Entry {
	n := w.nodes[i]
	e := api.Entry{Name: n.Text, Is: api.SCon, Scheme: api.Scheme{Vars: d.vars, Type: d.t}, Con: d.con, Arg: len(n.Kids) > 0}
	if e.Arg {
		e.Scheme.Type = w.arrow(i, w.ty(n.Kids[0]), d.t)
	}
	return e
}

// number says of a datatype's constructors which they are, by their names.
func number(cons []api.Entry) {
	var names []string
	for _, c := range cons {
		names = append(names, c.Name)
	}
	slices.Sort(names)
	for i := range cons {
		cons[i].Tag, _ = slices.BinarySearch(names, cons[i].Name)
		cons[i].Count = len(cons)
	}
}

// unequal are those of some datatypes that do not admit equality: by a constructor's own type, or by that of another one that stands there.
func (w *walker) unequal(group []*datatype) []*datatype {
	var out []*datatype
	met := make([]bool, len(group))
	drop := func(i int) {
		if !met[i] {
			met[i] = true
			out = append(out, group[i])
		}
	}
	users := map[int][]int{} // of a type constructor: those that admit equality only if it does
	for i, d := range group {
		need := func(con int) { users[con] = append(users[con], i) }
		if slices.ContainsFunc(d.cons, func(c api.Entry) bool { return c.Arg && !w.argumentMay(c, d, need) }) {
			drop(i)
		}
	}
	for at := 0; at < len(out); at++ {
		for _, i := range users[out[at].con] {
			drop(i)
		}
	}
	return out
}

// argumentMay tells whether what a datatype's constructor takes may admit equality.
func (w *walker) argumentMay(c api.Entry, d *datatype, need func(con int)) bool {
	t, _ := w.book.Look(c.Scheme.Type)
	return w.mayEqual(t.Args[0], d.vars, need)
}

// mayEqual tells whether a type admits equality if these variables do; it needs the type constructors that it names to have it, if their arguments do.
func (w *walker) mayEqual(t int, vars []int, need func(con int)) bool {
	part, _ := w.book.Look(t)
	switch part.Kind {
	case api.YVar:
		return slices.Contains(vars, t) || w.book.Equal(t)
	case api.YArrow:
		return false
	case api.YCon:
		switch _, _, equal, _ := w.book.Named(part.Con); equal {
		case api.Always:
			return true
		case api.Never:
			return false
		}
		need(part.Con)
	}
	return !slices.ContainsFunc(part.Args, func(a int) bool { return !w.mayEqual(a, vars, need) })
}
