package elab

import (
	"slices"

	"kiln/api"
)

// structure is a structure whose At is where it is, and in which names are found fast.
type structure struct {
	api.Str
	index *index                // made when it is first asked
	subs  map[string]*structure // the structures in it that were asked for
}

// index is where names stand in a structure: the place in its lists of what counts, and the fields.
type index struct {
	vals, types, strs  map[string]int
	values, structures map[string]int // fields
}

func newStructure(s api.Str) *structure { return &structure{Str: s} }

// names is the structure's index.
func (s *structure) names() *index {
	if s.index == nil {
		values, structures := slotsOf(s.Env)
		s.index = &index{
			vals:       lasts(s.Env.Vals, entryName),
			types:      lasts(s.Env.Types, typName),
			strs:       lasts(s.Env.Strs, strName),
			values:     numbered(values, 0),
			structures: numbered(structures, len(values)),
		}
		s.subs = map[string]*structure{}
	}
	return s.index
}

// numbered are names with their places, from a number on.
func numbered(names []string, from int) map[string]int {
	places := make(map[string]int, len(names))
	for i, name := range names {
		places[name] = from + i
	}
	return places
}

// field is where a field of the structure is.
func (s *structure) field(place int) api.Access {
	return api.Access{Id: s.At.Id, Path: append(slices.Clone(s.At.Path), place)}
}

// value is what a name stands for in the structure, with where it is.
func (s *structure) value(name string) (api.Entry, bool) {
	i, ok := s.names().vals[name]
	if !ok {
		return api.Entry{}, false
	}
	return s.placed(s.Env.Vals[i]), true
}

// placed is an Entry of the structure with where it is: in the field of its name, if there is one.
func (s *structure) placed(e api.Entry) api.Entry {
	e.At = api.Access{}
	if place, ok := s.names().values[e.Name]; ok && isField(e) {
		e.At = s.field(place)
	}
	return e
}

// typ is the type of a name in the structure.
func (s *structure) typ(name string) (api.Typ, bool) {
	i, ok := s.names().types[name]
	if !ok {
		return api.Typ{}, false
	}
	return s.Env.Types[i], true
}

// sub is the structure of a name in the structure.
func (s *structure) sub(name string) (*structure, bool) {
	i, ok := s.names().strs[name]
	if !ok {
		return nil, false
	}
	if s.subs[name] == nil {
		s.subs[name] = s.placedSub(s.Env.Strs[i])
	}
	return s.subs[name], true
}

// placedSub is a structure in the structure with where it is.
func (s *structure) placedSub(sub api.Str) *structure {
	inner := newStructure(sub)
	inner.At = s.field(s.names().structures[sub.Name])
	return inner
}

// within is the structure of a long name in the structure: itself, if there is no name.
func (s *structure) within(path []string) (*structure, bool) {
	for _, name := range path {
		inner, ok := s.sub(name)
		if !ok {
			return nil, false
		}
		s = inner
	}
	return s, true
}
