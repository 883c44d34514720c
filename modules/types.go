package modules

import (
	"slices"

	"kiln/api"
	"kiln/names"
)

// none is where a variable might stand, but there is none.
const none = -1

// constructor is the type constructor of a type's name, if it has one.
func (w *walker) constructor(t api.Typ) (int, bool) {
	part, ok := w.Book().Look(t.Scheme.Type)
	if !ok || part.Kind != api.YCon || !slices.EqualFunc(part.Args, t.Scheme.Vars, w.oneVariable) {
		return 0, false
	}
	return part.Con, true
}

// oneVariable tells whether two types are the same variable.
func (w *walker) oneVariable(s, t int) bool {
	x, y := w.variable(s), w.variable(t)
	return x == y && x != none
}

// variable is the number that a variable has now, or none of what is no variable.
func (w *walker) variable(t int) int {
	if part, _ := w.Book().Look(t); part.Kind != api.YVar {
		return none
	}
	if free := w.Book().Free(t); len(free) > 0 {
		return free[0]
	}
	return t
}

// isDatatype tells whether a type constructor is one of a datatype in an environment.
func (w *walker) isDatatype(v *names.Env, con int) bool {
	for inner := range v.Envs() {
		for t := range inner.OwnTypes() {
			if c, ok := w.constructor(t); ok && c == con && len(t.Cons) > 0 {
				return true
			}
		}
	}
	return false
}

// mayBe tells whether a flexible type constructor may be realized by a scheme.
func (w *walker) mayBe(con int, by api.Scheme) bool {
	_, arity, equal, _ := w.Book().Named(con)
	return len(by.Vars) == arity && (equal != api.If || w.admits(by))
}

// admits tells whether a scheme's type admits equality if its variables do. It looks at each part once: a type may have become large without end.
func (w *walker) admits(s api.Scheme) bool {
	own, met := w.places(s.Vars), map[int]struct{}{}
	todo := []int{s.Type}
	for len(todo) > 0 {
		t := todo[len(todo)-1]
		todo = todo[:len(todo)-1]
		if _, again := met[t]; again {
			continue
		}
		met[t] = struct{}{}
		part, _ := w.Book().Look(t)
		_, _, equal, _ := w.Book().Named(part.Con)
		switch {
		case part.Kind == api.YVar:
			if _, ok := own[w.variable(t)]; !ok && !w.Book().Equal(t) {
				return false
			}
		case part.Kind == api.YArrow || part.Kind == api.YCon && equal == api.Never:
			return false
		case part.Kind == api.YRec || equal == api.If:
			todo = append(todo, part.Args...)
		}
	}
	return true
}

// places are the places of variables, by the numbers that they have now.
func (w *walker) places(vars []int) map[int]int {
	l := make(map[int]int, len(vars))
	for at, v := range vars {
		l[w.variable(v)] = at
	}
	return l
}

// sameType tells whether the types of two schemes are the same, each of the ones' variables being the other's at its place.
func (w *walker) sameType(a, b api.Scheme) bool {
	if len(a.Vars) != len(b.Vars) {
		return false
	}
	left, right, met := w.places(a.Vars), w.places(b.Vars), map[[2]int]struct{}{}
	todo := [][2]int{{a.Type, b.Type}}
	for len(todo) > 0 {
		pair := todo[len(todo)-1]
		todo = todo[:len(todo)-1]
		if _, again := met[pair]; again {
			continue
		}
		met[pair] = struct{}{}
		x, _ := w.Book().Look(pair[0])
		y, _ := w.Book().Look(pair[1])
		switch {
		case x.Kind != y.Kind:
			return false
		case x.Kind == api.YVar:
			if !sameVariable(w.variable(pair[0]), w.variable(pair[1]), left, right) {
				return false
			}
		case x.Con != y.Con || !slices.Equal(x.Labels, y.Labels):
			return false
		default:
			for at := range x.Args {
				todo = append(todo, [2]int{x.Args[at], y.Args[at]})
			}
		}
	}
	return true
}

// sameVariable tells whether two variables stand for the same: at one place, or both for themselves.
func sameVariable(s, t int, left, right map[int]int) bool {
	i, ok := left[s]
	k, okay := right[t]
	return ok == okay && i == k && (ok || s == t)
}

// sameScheme tells whether each of two schemes covers the other.
func (w *walker) sameScheme(a, b api.Scheme) bool {
	return w.Book().Covers(a, b) && w.Book().Covers(b, a)
}
