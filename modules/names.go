package modules

import "kiln/api"

// none is where a place might stand, but there is none.
const none = -1

// table is names with what they stand for, in order: of several of a name the last one counts.
type table[T any] struct {
	rows []row[T]
	last map[string]int // of each name the row that counts
}

type row[T any] struct {
	name  string
	item  T
	ahead int // the row of the name that would count without this one, or none
}

// add puts a name behind the others.
func (t *table[T]) add(name string, item T) {
	if t.last == nil {
		t.last = map[string]int{}
	}
	ahead, ok := t.last[name]
	if !ok {
		ahead = none
	}
	t.last[name] = len(t.rows)
	t.rows = append(t.rows, row[T]{name, item, ahead})
}

// find is what a name stands for.
func (t *table[T]) find(name string) (T, bool) {
	i, ok := t.last[name]
	if !ok {
		var nothing T
		return nothing, false
	}
	return t.rows[i].item, true
}

// cut takes all rows from one on out of the table.
func (t *table[T]) cut(from int) {
	for i := len(t.rows) - 1; i >= from; i-- {
		if r := t.rows[i]; r.ahead == none {
			delete(t.last, r.name)
		} else {
			t.last[r.name] = r.ahead
		}
	}
	clear(t.rows[from:])
	t.rows = t.rows[:from]
}

// since are the items from a row on.
func (t *table[T]) since(from int) []T {
	var l []T
	for _, r := range t.rows[from:] {
		l = append(l, r.item)
	}
	return l
}

// some are the items that some names stand for.
func (t *table[T]) some(names []string) []T {
	var l []T
	for _, name := range names {
		if item, ok := t.find(name); ok {
			l = append(l, item)
		}
	}
	return l
}

// environment is an api.Env in which names are found fast, and which can be cut back.
type environment struct {
	vals  table[api.Entry]
	types table[api.Typ]
	strs  table[*structure]
}

// put puts all names of an environment behind those that are there.
func (v *environment) put(more api.Env) {
	for _, e := range more.Vals {
		v.vals.add(e.Name, e)
	}
	for _, t := range more.Types {
		v.types.add(t.Name, t)
	}
	for _, s := range more.Strs {
		v.strs.add(s.Name, newStructure(s))
	}
}

// mark is how far an environment goes.
type mark struct{ vals, types, strs int }

func (v *environment) mark() mark {
	return mark{len(v.vals.rows), len(v.types.rows), len(v.strs.rows)}
}

// since is what was put behind a mark.
func (v *environment) since(m mark) api.Env {
	return api.Env{Vals: v.vals.since(m.vals), Types: v.types.since(m.types), Strs: plainStrs(v.strs.since(m.strs))}
}

// cut takes all behind a mark out of the environment, and answers it.
func (v *environment) cut(m mark) api.Env {
	out := v.since(m)
	v.vals.cut(m.vals)
	v.types.cut(m.types)
	v.strs.cut(m.strs)
	return out
}

// some is what counts of some names, each of which is there once.
func (v *environment) some(names []string) api.Env {
	return api.Env{Vals: v.vals.some(names), Types: v.types.some(names), Strs: plainStrs(v.strs.some(names))}
}

// str is the structure of a long name, which is not empty.
func (v *environment) str(path []string) (*structure, bool) {
	s, ok := v.strs.find(path[0])
	if !ok {
		return nil, false
	}
	return s.within(path[1:])
}

func plainStrs(l []*structure) []api.Str {
	var plain []api.Str
	for _, s := range l {
		plain = append(plain, s.Str)
	}
	return plain
}
