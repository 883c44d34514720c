package names

import (
	"slices"
	"strings"

	"kiln/api"
)

// CloneAll is the same items in new memory.
func CloneAll[T any](l []T, clone func(T) T) []T {
	l = slices.Clone(l)
	for i, item := range l {
		l[i] = clone(item)
	}
	return l
}

func cloneText(s string) string { return strings.Clone(s) }

// CloneAccess is where something is, in new memory.
func CloneAccess(a api.Access) api.Access {
	a.Path = slices.Clone(a.Path)
	return a
}

func cloneScheme(s api.Scheme) api.Scheme {
	s.Vars = slices.Clone(s.Vars)
	return s
}

// CloneEntry is the same Entry in new memory.
func CloneEntry(e api.Entry) api.Entry {
	e.Name, e.Scheme, e.At = cloneText(e.Name), cloneScheme(e.Scheme), CloneAccess(e.At)
	return e
}

// CloneTyp is the same Typ in new memory.
func CloneTyp(t api.Typ) api.Typ {
	t.Name, t.Scheme, t.Cons = cloneText(t.Name), cloneScheme(t.Scheme), CloneAll(t.Cons, CloneEntry)
	return t
}

// Mapper makes environments anew, with other items in the place of those that they have, each once.
type Mapper struct {
	Entry func(api.Entry) api.Entry
	Typ   func(api.Typ) api.Typ
	Stays func(*Env) bool // tells of an environment that nothing in it becomes something else; or nil
	Made  func(*Env)      // is told of each environment that is made
	met   map[*Env]*Env
}

// Env is what an environment becomes.
func (m *Mapper) Env(v *Env) *Env {
	if made, again := m.met[v]; again {
		return made
	}
	if m.met == nil {
		m.met = map[*Env]*Env{}
	}
	made := v
	if m.Stays == nil || !m.Stays(v) {
		made = &Env{first: v.first, next: v.next, opens: slices.Clone(v.opens)}
		made.vals.rows = mapped(v.vals.rows, m.Entry)
		made.types.rows = mapped(v.types.rows, m.Typ)
		made.strs.rows = mapped(v.strs.rows, m.str)
		for i, o := range made.opens {
			made.opens[i].Env = m.Env(o.Env)
		}
		m.Made(made)
	}
	m.met[v] = made
	return made
}

func (m *Mapper) str(s Str) Str {
	s.Env = m.Env(s.Env)
	return s
}

// mapped are rows with other items.
func mapped[T any](rows []row[T], of func(T) T) []row[T] {
	rows = slices.Clone(rows)
	for i := range rows {
		rows[i].item = of(rows[i].item)
	}
	return rows
}
