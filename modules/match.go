package modules

import (
	"slices"

	"kiln/api"
	"kiln/elab"
)

// match matches a structure with a signature at a node, which has its parts then, and answers by what the flexible types are realized, and the realized environment.
func (w *walker) match(node int, v api.Env, sig api.Sigma) ([]api.Scheme, api.Env) {
	s := newStructure(api.Str{Env: v})
	found := w.found(node, s, sig)
	realized := w.realize(node, sig.Env, sig.Flex, found)
	asked := newStructure(api.Str{Env: realized})
	w.hold(node, s, asked)
	w.parts[node] = partsOf(s, asked)
	return found, realized
}

// place is where a type stands in an environment.
type place struct {
	path []string
	name string
}

// typeAt is the type at a place in the structure.
func (s *structure) typeAt(p place) (api.Typ, bool) {
	in, ok := s.within(p.path)
	if !ok {
		return api.Typ{}, false
	}
	return in.typ(p.name)
}

// found are the types of a structure that stand where a signature's flexible ones stand.
func (w *walker) found(node int, s *structure, sig api.Sigma) []api.Scheme {
	places := w.typePlaces(sig.Env)
	var found []api.Scheme
	for _, con := range sig.Flex {
		p, stands := places[con]
		typ, ok := s.typeAt(p)
		if !stands || !ok {
			w.check(node, api.ErrMissing)
		}
		if !w.mayBe(con, typ.Scheme) {
			w.check(node, api.ErrMatch)
		}
		found = append(found, typ.Scheme)
	}
	return found
}

// typePlaces are the places of type constructors: of each that of the first type's name that has it.
func (w *walker) typePlaces(v api.Env) map[int]place {
	places := map[int]place{}
	var seek func(v api.Env, path []string)
	seek = func(v api.Env, path []string) {
		for _, t := range v.Types {
			con, ok := w.constructor(t)
			if _, met := places[con]; ok && !met {
				places[con] = place{path, t.Name}
			}
		}
		for _, s := range v.Strs {
			seek(s.Env, append(slices.Clone(path), s.Name))
		}
	}
	seek(v, nil)
	return places
}

// hold holds a structure against what is asked of it: types, values, structures.
func (w *walker) hold(node int, s, asked *structure) {
	for _, t := range asked.Env.Types {
		typ, ok := s.typ(t.Name)
		if !ok {
			w.check(node, api.ErrMissing)
		}
		if !w.sameType(typ.Scheme, t.Scheme) || len(t.Cons) > 0 && !w.sameCons(typ.Cons, t.Cons) {
			w.check(node, api.ErrMatch)
		}
	}
	for _, e := range asked.Env.Vals {
		w.check(node, w.holdValue(s, e))
	}
	for _, sub := range asked.Env.Strs {
		inner, ok := s.sub(sub.Name)
		if !ok {
			w.check(node, api.ErrMissing)
		}
		w.hold(node, inner, newStructure(sub))
	}
}

// sameCons tells whether two datatypes have constructors of the same names and schemes.
func (w *walker) sameCons(a, b []api.Entry) bool {
	places := lasts(a, func(e api.Entry) string { return e.Name })
	return len(a) == len(b) && !slices.ContainsFunc(b, func(e api.Entry) bool {
		at, ok := places[e.Name]
		return !ok || !w.sameScheme(a[at].Scheme, e.Scheme)
	})
}

// holdValue is what is wrong with a structure's value for one that is asked.
func (w *walker) holdValue(s *structure, asked api.Entry) api.Errno {
	e, ok := s.entry(asked.Name)
	right := true
	switch asked.Is {
	case api.SVar:
		right = w.Book().Covers(e.Scheme, asked.Scheme)
	case api.SExn:
		ok = ok && e.Is == api.SExn
		right = w.sameScheme(e.Scheme, asked.Scheme)
	case api.SCon:
		ok = ok && e.Is == api.SCon
		right = e.Con == asked.Con
	}
	switch {
	case !ok:
		return api.ErrMissing
	case !right:
		return api.ErrMatch
	}
	return api.OK
}

// partsOf are the parts of the structure that is asked, out of another one.
func partsOf(s, asked *structure) []api.Part {
	values, structures := elab.Slots(asked.Env)
	var parts []api.Part
	for _, name := range values {
		e, _ := s.value(name)
		is, _ := asked.entry(name)
		parts = append(parts, api.Part{From: e, Exn: is.Is == api.SExn})
	}
	for _, name := range structures {
		from, _ := s.sub(name)
		to, _ := asked.sub(name)
		parts = append(parts, api.Part{From: api.Entry{Name: from.Name, At: from.At}, Str: true, Sub: partsOf(from, to)})
	}
	return parts
}
