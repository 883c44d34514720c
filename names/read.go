package names

import "kiln/api"

// MostNested is how deep structures may be nested in one another, above what the document promises something of: an environment that is made by hand may have no end.
const MostNested = 1 << 17

// Of is an environment in new memory. Of structures with the same lists it has the environment once; what is nested too deep, or in itself, is empty.
func Of(v api.Env) *Env { return reader{map[identity]*Env{}}.env(v, 0) }

// ScopeOf is a scope with an environment in new memory.
func ScopeOf(v api.Env) Scope { return Scope{*Of(v)} }

// identity is where the lists of an environment are.
type identity struct {
	vals  *api.Entry
	types *api.Typ
	strs  *api.Str
	size  [3]int
}

func identityOf(v api.Env) identity {
	id := identity{size: [3]int{len(v.Vals), len(v.Types), len(v.Strs)}}
	if len(v.Vals) > 0 {
		id.vals = &v.Vals[0]
	}
	if len(v.Types) > 0 {
		id.types = &v.Types[0]
	}
	if len(v.Strs) > 0 {
		id.strs = &v.Strs[0]
	}
	return id
}

// reader reads environments.
type reader struct{ met map[identity]*Env }

func (r reader) env(v api.Env, nested int) *Env {
	id := identityOf(v)
	if made, again := r.met[id]; again {
		return made
	}
	made := &Env{next: 1}
	if nested > MostNested {
		return made
	}
	r.met[id] = &Env{next: 1} // for what has itself in it
	made.vals.rows = rowsOf(v.Vals, func(e api.Entry) (string, api.Entry) { e = CloneEntry(e); return e.Name, e })
	made.types.rows = rowsOf(v.Types, func(t api.Typ) (string, api.Typ) { t = CloneTyp(t); return t.Name, t })
	made.strs.rows = rowsOf(v.Strs, func(s api.Str) (string, Str) { t := r.str(s, nested); return t.Name, t })
	r.met[id] = made
	return made
}

func (r reader) str(s api.Str, nested int) Str {
	return Str{cloneText(s.Name), CloneAccess(s.At), r.env(s.Env, nested+1)}
}

// rowsOf are rows of what is made of items, and their names.
func rowsOf[A, T any](l []A, of func(A) (string, T)) []row[T] {
	rows := make([]row[T], len(l))
	for i, a := range l {
		rows[i].name, rows[i].item = of(a)
	}
	return rows
}
