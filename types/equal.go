package types

import (
	"strings"

	"kiln/api"
)

// Equal tells whether a type admits equality.
func (b *Book) Equal(t int) bool {
	if !b.made() || !b.has(t) {
		return false
	}
	met := map[int]struct{}{} // a type may be larger than one may be: each part is asked once
	next := []int{t}
	for len(next) > 0 {
		p := b.now(next[len(next)-1])
		next = next[:len(next)-1]
		if _, again := met[p]; again {
			continue
		}
		met[p] = struct{}{}
		switch b.admits(b.cells[p]) {
		case api.Never:
			return false
		case api.If:
			next = append(next, b.cells[p].Args...)
		}
	}
	return true
}

// admits tells whether a type admits equality, or does if all its arguments do.
func (b *Book) admits(c cell) api.Equality {
	switch {
	case c.Kind == api.YCon:
		return b.cons[c.Con].equal
	case c.Kind == api.YRec:
		return api.If
	case c.Kind == api.YVar && (c.Equal || c.rigid && hasQuotes(c.Rigid)):
		return api.Always
	}
	return api.Never
}

// hasQuotes tells whether a variable's name begins with two quotes.
func hasQuotes(name string) bool { return strings.HasPrefix(name, "''") }

// admit makes types admit equality.
func (u *unifier) admit(types ...int) {
	for _, t := range types {
		t = u.now(t)
		c := u.cells[t]
		switch {
		case c.isFlexible():
			c.Equal = true
			u.set(t, c)
		case u.admits(c) == api.Never:
			fail(api.ErrEquality)
		case u.admits(c) == api.Always:
			continue
		}
		u.admit(c.Args...)
	}
}
