package types

import "kiln/api"

// Generalize is a type with all its variables of inner levels standing for any type.
func (b *Book) Generalize(t, level int) (api.Scheme, api.Errno) {
	switch {
	case !b.made():
		return api.Scheme{}, api.ErrNil
	case !b.has(t):
		return api.Scheme{}, api.ErrType
	case !isLevel(level):
		return api.Scheme{}, api.ErrArg
	case b.large(t):
		return api.Scheme{}, api.ErrLong
	}
	s := api.Scheme{Type: t}
	for _, v := range b.free(t) {
		switch c := b.cells[v]; {
		case c.Level <= level:
			continue
		case c.Class != api.Any:
			return api.Scheme{}, api.ErrClass
		case c.Open:
			return api.Scheme{}, api.ErrFields
		}
		s.Vars = append(s.Vars, v)
	}
	return s, api.OK
}

// Instance is a scheme's type with new variables, and these.
func (b *Book) Instance(s api.Scheme, level int) (int, []int, api.Errno) {
	if !b.made() {
		return 0, nil, api.ErrNil
	}
	places, ok := b.places(s)
	switch {
	case !ok:
		return 0, nil, api.ErrType
	case !isLevel(level):
		return 0, nil, api.ErrArg
	case b.large(s.Type) || b.large(s.Vars...):
		return 0, nil, api.ErrLong
	}
	from := len(b.cells)
	vars := b.likes(s.Vars, level)
	t := b.put(s.Type, places, vars) // never larger than the scheme's
	if len(b.cells) > api.MaxTypes {
		b.forget(from)
		return 0, nil, api.ErrMany
	}
	return t, vars, api.OK
}

// Put is a scheme's type with types in the place of its variables.
func (b *Book) Put(s api.Scheme, args ...int) (int, api.Errno) {
	if !b.made() {
		return 0, api.ErrNil
	}
	places, ok := b.places(s)
	switch {
	case !ok || !b.has(args...):
		return 0, api.ErrType
	case len(args) != len(s.Vars):
		return 0, api.ErrArity
	case b.large(s.Type) || b.large(s.Vars...) || b.large(args...):
		return 0, api.ErrLong
	}
	from := len(b.cells)
	return b.keep(b.put(s.Type, places, args), from)
}

// Replace is a type in which a scheme stands for a constructor.
func (b *Book) Replace(t, con int, by api.Scheme) (int, api.Errno) {
	if !b.made() {
		return 0, api.ErrNil
	}
	places, ok := b.places(by)
	switch {
	case !ok || !b.has(t) || !b.hasCon(con):
		return 0, api.ErrType
	case len(by.Vars) != b.cons[con].arity:
		return 0, api.ErrArity
	case b.large(t, by.Type) || b.large(by.Vars...):
		return 0, api.ErrLong
	}
	r := newReplacer(b, con, by.Type, places)
	return b.keep(r.swap(t, r.place), r.from)
}

// Covers tells whether one scheme has the other as an instance.
func (b *Book) Covers(s, t api.Scheme) bool {
	if !b.made() {
		return false
	}
	places, ok := b.places(s)
	_, okay := b.places(t)
	if !ok || !okay || b.large(s.Type, t.Type) || b.large(s.Vars...) || b.large(t.Vars...) {
		return false
	}
	from := len(b.cells)
	one := b.put(s.Type, places, b.likes(s.Vars, api.MaxLevel))
	u := unifier{Book: b}
	for _, v := range t.Vars {
		u.stiffen(b.now(v))
	}
	e := u.try(one, t.Type)
	u.back()
	b.forget(from)
	return e == api.OK
}

// places are the places of a scheme's variables, by what they are now; false of what is no scheme of the book.
func (b *Book) places(s api.Scheme) (map[int]int, bool) {
	if !b.has(s.Type) || !b.has(s.Vars...) {
		return nil, false
	}
	l := make(map[int]int, len(s.Vars))
	for i, v := range s.Vars {
		v = b.now(v)
		if _, twice := l[v]; twice || b.cells[v].Kind != api.YVar {
			return nil, false
		}
		l[v] = i
	}
	return l, true
}

// likes are new variables of a level, for each of these one that admits equality if that one does.
func (b *Book) likes(vars []int, level int) []int {
	var l []int
	for _, v := range vars {
		equal := b.admits(b.at(v)) == api.Always
		l = append(l, b.add(cell{Type: api.Type{Kind: api.YVar, Level: level, Equal: equal}}))
	}
	return l
}

// put is a type with types in the place of its variables.
func (b *Book) put(t int, places map[int]int, types []int) int {
	w := swapper{b, len(b.cells)}
	return w.swap(t, func(part int) (int, bool) {
		i, ok := places[part]
		if !ok {
			return 0, false
		}
		return b.now(types[i]), true
	})
}

// keep answers a type of which all types from a number on are parts, if it is not too large and there is room for them; else these are gone.
func (b *Book) keep(t, from int) (int, api.Errno) {
	e := api.OK
	switch {
	case b.large(t) || len(b.cells)-from > api.MaxSize:
		e = api.ErrLong
	case len(b.cells) > api.MaxTypes:
		e = api.ErrMany
	}
	if e != api.OK {
		b.forget(from)
		return 0, e
	}
	return t, api.OK
}

// stiffen makes a variable rigid.
func (u *unifier) stiffen(v int) {
	c := u.cells[v]
	if c.rigid {
		return
	}
	name := "'"
	if c.Equal {
		name = "''"
	}
	u.set(v, cell{Type: api.Type{Kind: api.YVar, Level: c.Level, Rigid: name}, rigid: true})
}
