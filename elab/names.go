package elab

import "kiln/api"

// none is where a place might stand, but there is none.
const none = -1

// table is names with what they stand for, in order: of several of a name the last one counts.
type table[T any] struct {
	rows []row[T]
	last map[string]int // of each name the row that counts
}

type row[T any] struct {
	name  string
	item  T
	ahead int // the row of the name that would count without this one, or none
}

// add puts a name behind the others.
func (t *table[T]) add(name string, item T) {
	if t.last == nil {
		t.last = map[string]int{}
	}
	ahead, ok := t.last[name]
	if !ok {
		ahead = none
	}
	t.last[name] = len(t.rows)
	t.rows = append(t.rows, row[T]{name, item, ahead})
}

// find is what a name stands for.
func (t *table[T]) find(name string) (T, bool) {
	i, ok := t.last[name]
	if !ok {
		var nothing T
		return nothing, false
	}
	return t.rows[i].item, true
}

// cut takes all rows from one on out of the table, and answers them.
func (t *table[T]) cut(from int) []row[T] {
	var out []row[T]
	out = append(out, t.rows[from:]...)
	for i := len(t.rows) - 1; i >= from; i-- {
		if r := t.rows[i]; r.ahead == none {
			delete(t.last, r.name)
		} else {
			t.last[r.name] = r.ahead
		}
	}
	clear(t.rows[from:])
	t.rows = t.rows[:from]
	return out
}

// put puts rows that were cut behind the others.
func (t *table[T]) put(rows []row[T]) {
	for _, r := range rows {
		t.add(r.name, r.item)
	}
}

// each tells all items, in order.
func each[T, A any](t table[T], tell func(T) A) []A {
	var l []A
	for _, r := range t.rows {
		l = append(l, tell(r.item))
	}
	return l
}

// value is a value's Entry in an environment.
type value struct {
	api.Entry
	own    bool // its type is of the declaration that is gone over
	closed bool // nothing can become of its type any more
}

// environment is an api.Env in which names are found fast, and which can be cut back.
type environment struct {
	vals  table[*value]
	types table[api.Typ]
	strs  table[*structure]
}

// environmentOf is an environment in new memory.
func environmentOf(v api.Env) environment {
	var made environment
	for _, e := range v.Vals {
		made.addVal(cloneEntry(e))
	}
	for _, t := range v.Types {
		made.addType(cloneTyp(t))
	}
	for _, s := range v.Strs {
		made.addStr(newStructure(cloneStr(s)))
	}
	return made
}

// told is the environment in new memory.
func (v *environment) told() api.Env {
	return api.Env{
		Vals:  each(v.vals, func(x *value) api.Entry { return cloneEntry(x.Entry) }),
		Types: each(v.types, cloneTyp),
		Strs:  each(v.strs, func(s *structure) api.Str { return cloneStr(s.Str) }),
	}
}

func (v *environment) addVal(e api.Entry)  { v.vals.add(e.Name, &value{Entry: e}) }
func (v *environment) addOwn(e api.Entry)  { v.vals.add(e.Name, &value{Entry: e, own: true}) }
func (v *environment) addType(t api.Typ)   { v.types.add(t.Name, t) }
func (v *environment) addStr(s *structure) { v.strs.add(s.Name, s) }

// mark is how far an environment goes.
type mark struct{ vals, types, strs int }

func (v *environment) mark() mark {
	return mark{len(v.vals.rows), len(v.types.rows), len(v.strs.rows)}
}

// give makes what stands behind a mark as good as what was there before it.
func (v *environment) give(m mark) {
	for _, r := range v.vals.rows[m.vals:] {
		r.item.own = false
	}
}

// piece is what was cut from an environment.
type piece struct {
	vals  []row[*value]
	types []row[api.Typ]
	strs  []row[*structure]
}

// cut takes all behind a mark out of the environment, and answers it.
func (v *environment) cut(m mark) piece {
	return piece{v.vals.cut(m.vals), v.types.cut(m.types), v.strs.cut(m.strs)}
}

// put puts a piece behind what is there.
func (v *environment) put(p piece) {
	v.vals.put(p.vals)
	v.types.put(p.types)
	v.strs.put(p.strs)
}

// str is the structure of a long name, which is not empty.
func (v *environment) str(path []string) (*structure, bool) {
	s, ok := v.strs.find(path[0])
	if !ok {
		return nil, false
	}
	return s.within(path[1:])
}

// val is what a long name stands for as a value, and whether its type is of the declaration that is gone over.
func (v *environment) val(path []string, name string) (e api.Entry, own, ok bool) {
	if len(path) > 0 {
		s, ok := v.str(path)
		if !ok {
			return api.Entry{}, false, false
		}
		e, ok := s.value(name)
		return e, false, ok
	}
	x, ok := v.vals.find(name)
	if !ok {
		return api.Entry{}, false, false
	}
	return x.Entry, x.own, true
}

// typ is what a long name stands for as a type.
func (v *environment) typ(path []string, name string) (api.Typ, bool) {
	if len(path) == 0 {
		return v.types.find(name)
	}
	s, ok := v.str(path)
	if !ok {
		return api.Typ{}, false
	}
	return s.typ(name)
}
