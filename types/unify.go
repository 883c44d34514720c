package types

import (
	"slices"

	"kiln/api"
)

// Unify makes two types the same.
func (b *Book) Unify(s, t int) api.Errno {
	switch {
	case !b.made():
		return api.ErrNil
	case !b.has(s, t):
		return api.ErrType
	}
	u := unifier{Book: b}
	return u.try(s, t)
}

// unifier makes types of a book the same, and knows what they were before.
type unifier struct {
	*Book
	trail []change
}

// change is what a type of a book was before it was turned.
type change struct {
	at  int
	was cell
}

// failure is what a unification that fails panics with.
type failure struct{ errno api.Errno }

func fail(e api.Errno) { panic(failure{e}) }

// set turns a type of the book.
func (u *unifier) set(t int, c cell) {
	u.trail = append(u.trail, change{t, u.cells[t]})
	u.cells[t] = c
}

// back makes all types what they were before.
func (u *unifier) back() {
	for _, c := range slices.Backward(u.trail) {
		u.cells[c.at] = c.was
	}
	u.trail = nil
}

// try makes two types the same, or answers why it can't, and then nothing has changed.
func (u *unifier) try(s, t int) (e api.Errno) {
	defer func() {
		if r := recover(); r != nil {
			u.back()
			e = r.(failure).errno // nothing else panics here
		}
	}()
	u.unify(s, t, never)
	return api.OK
}

// never is no length of a trail.
const never = -1

// unify makes two types the same, or fails. If the trail is as long as it was when what they stand in was found not to be too large, they are not, either.
func (u *unifier) unify(s, t, found int) {
	s, t = u.now(s), u.now(t)
	if s == t {
		return
	}
	if found != len(u.trail) {
		u.bound(s, t)
		found = len(u.trail)
	}
	x, y := u.cells[s], u.cells[t]
	switch {
	case x.isFlexible() && y.isFlexible():
		u.merge(s, t)
	case x.isFlexible():
		u.become(s, t)
	case y.isFlexible():
		u.become(t, s)
	case x.rigid || y.rigid:
		fail(api.ErrRigid)
	case x.Kind != y.Kind || x.Con != y.Con:
		fail(api.ErrUnify)
	case !slices.Equal(x.Labels, y.Labels):
		fail(api.ErrFields)
	default:
		for i, a := range x.Args {
			u.unify(a, y.Args[i], found)
		}
		if found != len(u.trail) {
			u.bound(s)
		}
	}
}

// bound fails if one of these is too large now.
func (u *unifier) bound(types ...int) {
	if u.large(types...) {
		fail(api.ErrLong)
	}
}

// apart fails if a variable stands in one of these types.
func (u *unifier) apart(v int, types ...int) {
	u.walk(func(p int) {
		if p == v {
			fail(api.ErrOccurs)
		}
	}, types...)
}

// merge makes one variable of two.
func (u *unifier) merge(s, t int) {
	x, y := u.cells[s], u.cells[t]
	u.apart(s, y.Args...)
	u.apart(t, x.Args...)
	if x.Open && y.Class != api.Any || y.Open && x.Class != api.Any {
		fail(api.ErrClass)
	}
	if x.count < y.count { // the one that more are already is left, so that no way from a variable to what it is gets long
		s, t = t, s
	}
	one, twice := mixed(x, y)
	u.set(s, one)
	u.set(t, cell{to: s})
	for _, pair := range twice {
		u.unify(pair[0], pair[1], never)
	}
	u.bound(s)
	if one.Equal {
		u.admit(one.Args...)
	}
	u.lower(one.Level, one.Args...)
}

// mixed is a variable with what both have, and the two types of each field that both have.
func mixed(x, y cell) (cell, [][2]int) {
	all, twice := joined(x.Type, y.Type)
	one := cell{count: x.count + y.count + 1}
	one.Type = api.Type{
		Kind:   api.YVar,
		Equal:  x.Equal || y.Equal,
		Class:  narrower(x.Class, y.Class),
		Level:  min(x.Level, y.Level),
		Open:   x.Open || y.Open,
		Labels: all.labels,
		Args:   all.types,
	}
	return one, twice
}

// narrower is the class of what is of both.
func narrower(x, y api.Class) api.Class {
	if x == api.Any || y == api.Any {
		return max(x, y)
	}
	return min(x, y)
}

// become makes a variable what another type is, which is none, or a rigid one.
func (u *unifier) become(v, t int) {
	u.apart(v, t)
	x := u.cells[v]
	if x.Open {
		u.fill(x, t)
		u.bound(t)
		u.apart(v, t)
	}
	if x.Class != api.Any && !isOf(x.Class, u.cells[t]) {
		fail(api.ErrClass)
	}
	if x.Equal {
		u.admit(t)
	}
	u.lower(x.Level, t)
	u.set(v, cell{to: t})
}

// fill makes the fields of an open variable the same as those of a type, which must be a record that has them.
func (u *unifier) fill(x cell, t int) {
	y := u.cells[t]
	if y.Kind != api.YRec {
		fail(api.ErrUnify)
	}
	all, twice := joined(x.Type, y.Type)
	if len(all.labels) > len(y.Labels) {
		fail(api.ErrFields)
	}
	for _, pair := range twice {
		u.unify(pair[0], pair[1], never)
	}
}

// isOf tells whether a type is one of a class that is not Any.
func isOf(class api.Class, c cell) bool {
	if c.Kind != api.YCon {
		return false
	}
	switch c.Con {
	case api.ConInt, api.ConReal:
		return true
	case api.ConChar, api.ConString:
		return class == api.Text
	}
	return false
}

// lower makes the levels of all variables in types no higher than this one.
func (u *unifier) lower(level int, types ...int) {
	u.walk(func(p int) {
		c := u.cells[p]
		if c.Kind != api.YVar || c.Level <= level {
			return
		}
		if c.rigid {
			fail(api.ErrRigid)
		}
		c.Level = level
		u.set(p, c)
	}, types...)
}
