package modules

import (
	"slices"

	"kiln/api"
	"kiln/names"
)

// match matches a structure with a signature at a node, which has its parts then, and answers by what the flexible types are realized, and the realized environment.
func (w *walker) match(node int, v *names.Env, sig sigma) ([]api.Scheme, *names.Env) {
	found := w.found(node, v, sig)
	realized := w.realize(node, sig.env, sig.flex, found)
	w.hold(node, v, realized, map[both]struct{}{})
	w.setParts(node, source{from: v, asked: realized})
	return found, realized
}

// place is where a type stands in an environment.
type place struct {
	path []string
	name string
}

// found are the types of a structure that stand where a signature's flexible ones stand.
func (w *walker) found(node int, v *names.Env, sig sigma) []api.Scheme {
	places := w.typePlaces(sig.env)
	var found []api.Scheme
	for _, con := range sig.flex {
		p, stands := places[con]
		typ, _, ok := v.FindTyp(p.path, p.name)
		if !stands || !ok {
			w.check(node, api.ErrMissing)
		}
		if !w.mayBe(con, typ.Scheme) {
			w.check(node, api.ErrMatch)
		}
		found = append(found, typ.Scheme)
	}
	return found
}

// typePlaces are the places of type constructors: of each that of the first type's name that has it.
func (w *walker) typePlaces(v *names.Env) map[int]place {
	places, seen := map[int]place{}, map[*names.Env]struct{}{}
	var seek func(v *names.Env, path []string)
	seek = func(v *names.Env, path []string) {
		if _, again := seen[v]; again {
			return
		}
		seen[v] = struct{}{}
		for t := range v.Types() {
			con, ok := w.constructor(t)
			if _, met := places[con]; ok && !met {
				places[con] = place{path, t.Name}
			}
		}
		for s := range v.Strs() {
			seek(s.Env, append(slices.Clone(path), s.Name))
		}
	}
	seek(v, nil)
	return places
}

// both is a structure's environment with that which is asked of it.
type both struct{ has, asked *names.Env }

// hold holds a structure against what is asked of it: types, values, structures; each pair once.
func (w *walker) hold(node int, v, asked *names.Env, held map[both]struct{}) {
	if _, again := held[both{v, asked}]; again {
		return
	}
	held[both{v, asked}] = struct{}{}
	for t := range asked.Types() {
		typ, _, ok := v.Typ(t.Name)
		if !ok {
			w.check(node, api.ErrMissing)
		}
		if !w.sameType(typ.Scheme, t.Scheme) || len(t.Cons) > 0 && !w.sameCons(typ.Cons, t.Cons) {
			w.check(node, api.ErrMatch)
		}
	}
	for e := range asked.Vals() {
		w.check(node, w.holdValue(v, e))
	}
	for s := range asked.Strs() {
		inner, _, ok := v.Str(s.Name)
		if !ok {
			w.check(node, api.ErrMissing)
		}
		w.hold(node, inner.Env, s.Env, held)
	}
}

// sameCons tells whether two datatypes have constructors of the same names and schemes.
func (w *walker) sameCons(a, b []api.Entry) bool {
	places := map[string]int{}
	for i, e := range a {
		places[e.Name] = i
	}
	return len(a) == len(b) && !slices.ContainsFunc(b, func(e api.Entry) bool {
		at, ok := places[e.Name]
		return !ok || !w.sameScheme(a[at].Scheme, e.Scheme)
	})
}

// holdValue is what is wrong with a structure's value for one that is asked.
func (w *walker) holdValue(v *names.Env, asked api.Entry) api.Errno {
	e, _, ok := v.Val(asked.Name)
	right := true
	switch asked.Is {
	case api.SVar:
		right = w.Book().Covers(e.Scheme, asked.Scheme)
	case api.SExn:
		ok = ok && e.Is == api.SExn
		right = w.sameScheme(e.Scheme, asked.Scheme)
	case api.SCon:
		ok = ok && e.Is == api.SCon
		right = e.Con == asked.Con
	}
	switch {
	case !ok:
		return api.ErrMissing
	case !right:
		return api.ErrMatch
	}
	return api.OK
}
