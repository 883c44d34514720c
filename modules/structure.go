package modules

import (
	"slices"

	"kiln/api"
	"kiln/elab"
)

// structure is a structure whose At is where it is, and in which names are found fast.
type structure struct {
	api.Str
	index *index                // made when it is first asked
	subs  map[string]*structure // the structures in it that were asked for
}

// index is where names stand in a structure: the place in its lists of what counts, and the fields.
type index struct {
	vals, types, strs  map[string]int
	values, structures map[string]int // fields
}

func newStructure(s api.Str) *structure { return &structure{Str: s} }

// names is the structure's index.
func (s *structure) names() *index {
	if s.index == nil {
		values, structures := elab.Slots(s.Env)
		s.index = &index{
			vals:       lasts(s.Env.Vals, func(e api.Entry) string { return e.Name }),
			types:      lasts(s.Env.Types, func(t api.Typ) string { return t.Name }),
			strs:       lasts(s.Env.Strs, func(s api.Str) string { return s.Name }),
			values:     numbered(values, 0),
			structures: numbered(structures, len(values)),
		}
		s.subs = map[string]*structure{}
	}
	return s.index
}

// lasts are the places of the items that count, by their names.
func lasts[T any](l []T, named func(T) string) map[string]int {
	places := make(map[string]int, len(l))
	for i, item := range l {
		places[named(item)] = i
	}
	return places
}

// numbered are names with their places, from a number on.
func numbered(names []string, from int) map[string]int {
	places := make(map[string]int, len(names))
	for i, name := range names {
		places[name] = from + i
	}
	return places
}

// field is where a field of the structure is.
func (s *structure) field(place int) api.Access {
	return api.Access{Id: s.At.Id, Path: append(slices.Clone(s.At.Path), place)}
}

// entry is the Entry that counts of a name in the structure, as it stands there.
func (s *structure) entry(name string) (api.Entry, bool) {
	i, ok := s.names().vals[name]
	if !ok {
		return api.Entry{}, false
	}
	return s.Env.Vals[i], true
}

// value is what a name stands for in the structure, with where it is.
func (s *structure) value(name string) (api.Entry, bool) {
	e, ok := s.entry(name)
	e.At = api.Access{}
	if place, is := s.names().values[name]; is {
		e.At = s.field(place)
	}
	return e, ok
}

// typ is the type of a name in the structure.
func (s *structure) typ(name string) (api.Typ, bool) {
	i, ok := s.names().types[name]
	if !ok {
		return api.Typ{}, false
	}
	return s.Env.Types[i], true
}

// sub is the structure of a name in the structure.
func (s *structure) sub(name string) (*structure, bool) {
	i, ok := s.names().strs[name]
	if !ok {
		return nil, false
	}
	if s.subs[name] == nil {
		inner := newStructure(s.Env.Strs[i])
		inner.At = s.field(s.names().structures[name])
		s.subs[name] = inner
	}
	return s.subs[name], true
}

// within is the structure of a long name in the structure: itself, if there is no name.
func (s *structure) within(path []string) (*structure, bool) {
	for _, name := range path {
		inner, ok := s.sub(name)
		if !ok {
			return nil, false
		}
		s = inner
	}
	return s, true
}

// size is how many names an environment has in all, those in its structures, and constructors of its datatypes, too.
func size(v api.Env) int {
	n := len(v.Vals) + len(v.Types) + len(v.Strs)
	for _, t := range v.Types {
		n += len(t.Cons)
	}
	for _, s := range v.Strs {
		n += size(s.Env)
	}
	return n
}
